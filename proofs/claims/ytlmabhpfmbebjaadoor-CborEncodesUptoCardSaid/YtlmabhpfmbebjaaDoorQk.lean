/- Joined texts, what is wanted of them: HdB, HpA, HpB. -/
import Derived.Lib.Hide
import Derived.Deep.DeepCutAuto
import Derived.IntWalk
import Derived.Laws.BitsAllLaws
import Derived.Test.YtlmabhpfmbebjaaDoorProg
import Derived.WalkKit
import Derived.WalkSpells
import Derived.Deep.QuietTactic
import Derived.BigQuiet
import Derived.Deep.RegionHeld3
import Derived.Test.YtlmabhpfmbebjaaDoorShelf
import Derived.Deep.RegionWith
import Derived.Test.YtlmabhpfmbebjaaDoorQa
import Derived.Test.YtlmabhpfmbebjaaDoorQe
namespace Go.Proofs.YtlmabhpfmbebjaaDoor.nn
open Go.RowKit

theorem info_byte10 : (Tryd.prog.info? 5).map (fun i => (i.zero, i.size, i.bytes)) = some (some (.int .u8 0), 1, 1) := by kernel_rfl
theorem neI {c k : Int} (h : c ≠ k) : (c == k) = false := by rw [beq_eq_false_iff_ne]; exact h
set_option maxRecDepth 100000 in
theorem hsize_any (n : Nat) (w : World) : Calls Tryd.prog 60 #[.int .u64 (n : Int)] w fun e w' => e = .returned (.int .i64 (hdS n : Int)) ∧ w = w' := by
  by_cases h1 : (n : Int) < 24
  · have e : hdS n = 0 := by have := hdS_cases n; omega
    rw [e]
    clear e
    go_enter Tryd.func60, Tryd.ntmps60
    go_wp2
    go_ret
    exact ⟨rfl, rfl⟩
  · by_cases h2 : (n : Int) < 256
    · have e : hdS n = 1 := by have := hdS_cases n; omega
      rw [e]
      clear e
      go_enter Tryd.func60, Tryd.ntmps60
      go_wp2
      go_ret
      exact ⟨rfl, rfl⟩
    · by_cases h3 : (n : Int) < 65536
      · have e : hdS n = 2 := by have := hdS_cases n; omega
        rw [e]
        clear e
        go_enter Tryd.func60, Tryd.ntmps60
        go_wp2
        go_ret
        exact ⟨rfl, rfl⟩
      · by_cases h4 : (n : Int) < 4294967296
        · have e : hdS n = 4 := by have := hdS_cases n; omega
          rw [e]
          clear e
          go_enter Tryd.func60, Tryd.ntmps60
          go_wp2
          go_ret
          exact ⟨rfl, rfl⟩
        · have e : hdS n = 8 := by have := hdS_cases n; omega
          rw [e]
          clear e
          go_enter Tryd.func60, Tryd.ntmps60
          go_wp2
          go_ret
          exact ⟨rfl, rfl⟩
set_option maxRecDepth 100000 in
theorem hinfo_any (k : Int) (w : World) : Calls Tryd.prog 59 #[.int .i64 k] w fun e w' => e = .returned (.int .i64 (hdI k : Int)) ∧ w = w' := by
  rcases hdI_cases k with ⟨rfl, e⟩ | ⟨rfl, e⟩ | ⟨rfl, e⟩ | ⟨rfl, e⟩ | ⟨h1, h2, h4, h8, e⟩
  · rw [e]
    clear e
    go_enter Tryd.func59, Tryd.ntmps59
    go_wp2
    go_ret
    exact ⟨rfl, rfl⟩
  · rw [e]
    clear e
    go_enter Tryd.func59, Tryd.ntmps59
    go_wp2
    go_ret
    exact ⟨rfl, rfl⟩
  · rw [e]
    clear e
    go_enter Tryd.func59, Tryd.ntmps59
    go_wp2
    go_ret
    exact ⟨rfl, rfl⟩
  · rw [e]
    clear e
    go_enter Tryd.func59, Tryd.ntmps59
    go_wp2
    go_ret
    exact ⟨rfl, rfl⟩
  · rw [e]
    have k1 := neI h1
    have k2 := neI h2
    have k4 := neI h4
    have k8 := neI h8
    clear e h1 h2 h4 h8
    go_enter Tryd.func59, Tryd.ntmps59
    go_wp2
    go_ret
    exact ⟨rfl, rfl⟩
/-- what Wide answers -/
def HdAns (M : Int) (n : Nat) (k : Int) (w : World) (e : Ending) (w' : World) : Prop :=
  ((hdOk M n k = true ∧ ∃ A c, e = .returned (.tuple #[.slice A (k.toNat + 1) c, .int .i64 0]) ∧ Rd w' .u8 A (k.toNat + 1) (hdB M.toNat n k.toNat) ∧ k.toNat + 1 ≤ c ∧ c ≤ maxLen) ∨
   (hdOk M n k = false ∧ e = .returned (.tuple #[.slice none 0 0, .int .i64 1]))) ∧ Below w.heap.size w w'
theorem first_byte {M x : Nat} (hM : M ≤ 7) (hx : x < 32) : bits .or .u8 (IntKind.u8.wrap ((M : Int) * 32)) (IntKind.u8.wrap (x : Int)) = ((M * 32 + x : Nat) : Int) := by
  have e1 : IntKind.u8.wrap ((M : Int) * 32) = ((M * 32 : Nat) : Int) := by rw [IntKind.wrap_u8]; omega
  have e2 : IntKind.u8.wrap (x : Int) = (x : Int) := by rw [IntKind.wrap_u8]; omega
  rw [e1, e2, u8_or_nat _ _ (by omega) (by omega), nat_join 5 _ _ (Nat.mul_mod_left M 32) hx]
theorem first_byte2 {M x : Nat} (hM : M ≤ 7) (hx : x < 32) : bits .or .u8 ((M : Int) * 32) (x : Int) = ((M * 32 + x : Nat) : Int) := by
  have e1 : (M : Int) * 32 = ((M * 32 : Nat) : Int) := by omega
  rw [e1, u8_or_nat _ _ (by omega) (by omega), nat_join 5 _ _ (Nat.mul_mod_left M 32) hx]
theorem int_first {m x : Nat} (hm : m ≤ 7) (hx : x < 32) : bits .or .i64 ((m : Int) * 32) (x : Int) = ((m * 32 + x : Nat) : Int) := by
  have e1 : (m : Int) * 32 = ((m * 32 : Nat) : Int) := by omega
  rw [e1, i64_or_nat _ _ (by omega) (by omega), nat_join 5 _ _ (Nat.mul_mod_left m 32) hx]
end Go.Proofs.YtlmabhpfmbebjaaDoor.nn
namespace Go.Proofs.YtlmabhpfmbebjaaDoor.nn
open Go.RowKit

/-- how many bytes a size has -/
def szL (s : Nat) : Nat := if s = 0 then 0 else if s = 1 then 1 else if s = 2 then 2 else if s = 3 then 4 else if s = 4 then 8 else 16
/-- the greatest number of a size -/
def szG (s : Nat) : Nat := if s = 0 then 23 else if s = 1 then 255 else if s = 2 then 65535 else if s = 3 then 4294967295 else 18446744073709551615
/-- the least size that has a number -/
def szN (n : Nat) : Nat := if n < 24 then 0 else if n < 256 then 1 else if n < 65536 then 2 else if n < 4294967296 then 3 else 4
theorem szN_cases (n : Nat) : (n < 24 ∧ szN n = 0) ∨ (24 ≤ n ∧ n < 256 ∧ szN n = 1) ∨ (256 ≤ n ∧ n < 65536 ∧ szN n = 2) ∨ (65536 ≤ n ∧ n < 4294967296 ∧ szN n = 3) ∨ (4294967296 ≤ n ∧ szN n = 4) := by
  unfold szN
  by_cases h1 : n < 24
  · exact .inl ⟨h1, if_pos h1⟩
  · by_cases h2 : n < 256
    · exact .inr (.inl ⟨by omega, h2, by rw [if_neg h1, if_pos h2]⟩)
    · by_cases h3 : n < 65536
      · exact .inr (.inr (.inl ⟨by omega, h3, by rw [if_neg h1, if_neg h2, if_pos h3]⟩))
      · by_cases h4 : n < 4294967296
        · exact .inr (.inr (.inr (.inl ⟨by omega, h4, by rw [if_neg h1, if_neg h2, if_neg h3, if_pos h4]⟩)))
        · exact .inr (.inr (.inr (.inr ⟨by omega, by rw [if_neg h1, if_neg h2, if_neg h3, if_neg h4]⟩)))
theorem szN_len (n : Nat) : szL (szN n) = hdS n ∧ szN n ≤ 4 := by
  have h2 := hdS_cases n
  rcases szN_cases n with ⟨_, e⟩ | ⟨_, _, e⟩ | ⟨_, _, e⟩ | ⟨_, _, e⟩ | ⟨_, e⟩ <;> rw [e] <;> simp [szL] <;> omega
theorem szN_lt {n i : Nat} (h : i < szN n) : szG i < n := by
  have hi : i = 0 ∨ i = 1 ∨ i = 2 ∨ i = 3 := by have := (szN_len n).2; omega
  have := szN_cases n
  rcases hi with rfl | rfl | rfl | rfl <;> simp [szG] <;> omega
theorem szN_le {n : Nat} (hn : n < 18446744073709551616) : n ≤ szG (szN n) := by
  rcases szN_cases n with ⟨_, e⟩ | ⟨_, _, e⟩ | ⟨_, _, e⟩ | ⟨_, _, e⟩ | ⟨_, e⟩ <;> rw [e] <;> simp [szG] <;> omega
set_option maxRecDepth 100000 in
theorem slength_any (s : Nat) (hs : s ≤ 5) (w : World) : Calls Tryd.prog 69 #[.int .i64 (s : Int)] w fun e w' => e = .returned (.int .i64 (szL s : Int)) ∧ w = w' := by
  have h : s = 0 ∨ s = 1 ∨ s = 2 ∨ s = 3 ∨ s = 4 ∨ s = 5 := by omega
  clear hs
  rcases h with rfl | rfl | rfl | rfl | rfl | rfl
  all_goals
    go_enter Tryd.func69, Tryd.ntmps69
    go_wp2_with fail
    go_ret
    exact ⟨rfl, rfl⟩
set_option maxRecDepth 100000 in
theorem sgreatest_any (s : Nat) (hs : s ≤ 4) (w : World) : Calls Tryd.prog 70 #[.int .i64 (s : Int)] w fun e w' => e = .returned (.int .u64 (szG s : Int)) ∧ w = w' := by
  have HL := Lib.hid (fun s h W => slength_any s h W)
  have h : s = 0 ∨ s = 1 ∨ s = 2 ∨ s = 3 ∨ s = 4 := by omega
  clear hs
  rcases h with rfl | rfl | rfl | rfl | rfl
  · go_enter Tryd.func70, Tryd.ntmps70
    go_wp2_with fail
    go_ret
    exact ⟨rfl, rfl⟩
  · have H1 := Lib.hid (fun W => HL.out 1 (by decide) W)
    go_enter Tryd.func70, Tryd.ntmps70
    go_wp2_with fail
    refine (H1.out _).mono ?_
    rintro e w' ⟨rfl, rfl⟩
    rw [show szL 1 = 1 from rfl]
    go_wp2_with fail
    go_ret
    exact ⟨rfl, rfl⟩
  · have H1 := Lib.hid (fun W => HL.out 2 (by decide) W)
    go_enter Tryd.func70, Tryd.ntmps70
    go_wp2_with fail
    refine (H1.out _).mono ?_
    rintro e w' ⟨rfl, rfl⟩
    rw [show szL 2 = 2 from rfl]
    go_wp2_with fail
    go_ret
    exact ⟨rfl, rfl⟩
  · have H1 := Lib.hid (fun W => HL.out 3 (by decide) W)
    go_enter Tryd.func70, Tryd.ntmps70
    go_wp2_with fail
    refine (H1.out _).mono ?_
    rintro e w' ⟨rfl, rfl⟩
    rw [show szL 3 = 4 from rfl]
    go_wp2_with fail
    go_ret
    exact ⟨rfl, rfl⟩
  · have H1 := Lib.hid (fun W => HL.out 4 (by decide) W)
    go_enter Tryd.func70, Tryd.ntmps70
    go_wp2_with fail
    refine (H1.out _).mono ?_
    rintro e w' ⟨rfl, rfl⟩
    rw [show szL 4 = 8 from rfl]
    go_wp2_with fail
    go_ret
    exact ⟨rfl, rfl⟩
set_option maxRecDepth 100000 in
theorem sinfo_any (s n : Nat) (hs : s ≤ 4) (hn : s = 0 → n < 24) (_ : n < 18446744073709551616) (w : World) : Calls Tryd.prog 68 #[.int .i64 (s : Int), .int .u64 (n : Int)] w fun e w' => e = .returned (.int .i64 ((if s = 0 then n else 23 + s : Nat) : Int)) ∧ w = w' := by
  by_cases h : s = 0
  · subst h
    have h24 := hn rfl
    rw [if_pos rfl]
    clear hs hn
    go_enter Tryd.func68, Tryd.ntmps68
    go_wp2_with fail
    go_ret
    exact ⟨rfl, rfl⟩
  · have k0 : ((s : Int) == 0) = false := neI (by omega)
    obtain ⟨r, hr⟩ : ∃ r, (if s = 0 then n else 23 + s) = r := ⟨_, rfl⟩
    have e : (23 : Int) + (s : Int) = (r : Int) := by rw [← hr, if_neg h]; omega
    have er : r ≤ 27 := by rw [← hr, if_neg h]; omega
    rw [hr]
    clear hr h hn
    go_enter Tryd.func68, Tryd.ntmps68
    go_wp2_with fail
    go_ret
    exact ⟨by first | rfl | (rw [e]), rfl⟩
set_option maxRecDepth 100000 in
theorem sjoin_any (m x : Nat) (hm : m ≤ 7) (hx : x < 32) (w : World) : Calls Tryd.prog 67 #[.int .i64 (m : Int), .int .i64 (x : Int)] w fun e w' => e = .returned (.int .u8 ((m * 32 + x : Nat) : Int)) ∧ w = w' := by
  have hb := int_first hm hx
  have hb8 : IntKind.u8.wrap ((m * 32 + x : Nat) : Int) = ((m * 32 + x : Nat) : Int) := by rw [IntKind.wrap_u8]; omega
  obtain ⟨d, hd⟩ : ∃ d, m * 32 + x = d := ⟨_, rfl⟩
  rw [hd] at hb hb8 ⊢
  clear hd
  go_enter Tryd.func67, Tryd.ntmps67
  go_wp2_with fail
  go_ret
  exact ⟨rfl, rfl⟩
set_option maxRecDepth 100000 in
theorem sleast_any (n : Nat) (hn : n < 18446744073709551616) (w : World) : Calls Tryd.prog 56 #[.int .u64 (n : Int)] w fun e w' => e = .returned (.int .i64 (szN n : Int)) ∧ w = w' := by
  have HG := Lib.hid (fun s h W => sgreatest_any s h W)
  have h4 : szN n ≤ 4 := (szN_len n).2
  have HLT := Lib.hid (fun i (h : i < szN n) => szN_lt h)
  have HLE := Lib.hid (szN_le hn)
  obtain ⟨q, hq⟩ : ∃ q, szN n = q := ⟨_, rfl⟩
  rw [hq] at h4 HLT HLE ⊢
  clear hq
  go_enter Tryd.func56, Tryd.ntmps56
  go_wp2_with fail
  go_loopw [3] (fun s3 wr => ∃ i : Nat, i ≤ q ∧ s3 = .int .i64 (i : Int) ∧ w = wr) (fun s3 _ => q - (intOf s3).toNat)
  case atStart => exact ⟨0, Nat.zero_le _, rfl, rfl⟩
  case round =>
    obtain ⟨i, hi, rfl, rfl⟩ := hrel
    have H1 := Lib.hid (fun W => HG.out i (by omega) W)
    obtain ⟨g, hg⟩ : ∃ g, szG i = g := ⟨_, rfl⟩
    rw [hg] at H1
    by_cases hlt : i < q
    · have h1 : ((g : Nat) : Int) < (n : Int) := by have := HLT.out i hlt; omega
      clear hg
      go_wp2_with fail
      refine (H1.out _).mono ?_
      rintro e w' ⟨rfl, rfl⟩
      go_wp2_with fail
      go_roundw
      case rel => exact ⟨i + 1, hlt, by go_num, trivial⟩
      case measure => simp [intOf]; omega
    · obtain rfl : i = q := by omega
      have h1 : ¬ ((g : Nat) : Int) < (n : Int) := by have := HLE.out; omega
      clear hg
      go_wp2_with fail
      refine (H1.out _).mono ?_
      rintro e w' ⟨rfl, rfl⟩
      go_wp2_with fail
      exact bodyPost_ret (by simp [results, Tryd.results56, go_sem]) rfl ⟨rfl, by first | rfl | trivial⟩
end Go.Proofs.YtlmabhpfmbebjaaDoor.nn
namespace Go.Proofs.YtlmabhpfmbebjaaDoor.nn
open Go.RowKit

/-- is a head refused -/
def rfB (M : Int) (n s : Nat) : Bool := decide (M < 0 ∨ 7 < M ∨ s = 5 ∨ szG s < n ∨ (M = 7 ∧ (1 < s ∨ (s = 1 ∧ n < 32))))
theorem rfB_no {M : Int} {n s : Nat} (hs : s ≤ 4) (hn : n < 18446744073709551616) : hdOk M n (szL s : Int) = !rfB M n s := by
  have h : s = 0 ∨ s = 1 ∨ s = 2 ∨ s = 3 ∨ s = 4 := by omega
  have hS := hdS_cases n
  unfold hdOk hdX rfB
  rcases h with rfl | rfl | rfl | rfl | rfl
  · rw [show szL 0 = 0 from rfl, show szG 0 = 23 from rfl]
    by_cases c : M < 0 ∨ 7 < M ∨ 0 = 5 ∨ 23 < n ∨ (M = 7 ∧ (1 < 0 ∨ (0 = 1 ∧ n < 32)))
    · rw [decide_eq_true c, Bool.not_true]
      by_cases c2 : (hdS n : Int) ≤ 0
      · rw [decide_eq_true (by omega)]; rfl
      · rw [decide_eq_false (p := _ ∧ _) (by omega), Bool.and_false]
    · rw [decide_eq_false c, decide_eq_false (by omega), decide_eq_true ⟨.inl rfl, by omega⟩]; rfl
  · rw [show szL 1 = 1 from rfl, show szG 1 = 255 from rfl, show hdI ((1 : Nat) : Int) = 24 from rfl]
    by_cases c : M < 0 ∨ 7 < M ∨ 1 = 5 ∨ 255 < n ∨ (M = 7 ∧ (1 < 1 ∨ (1 = 1 ∧ n < 32)))
    · rw [decide_eq_true c, Bool.not_true]
      by_cases c2 : (hdS n : Int) ≤ 1
      · rw [decide_eq_true (by omega)]; rfl
      · rw [decide_eq_false (p := _ ∧ _) (by omega), Bool.and_false]
    · rw [decide_eq_false c, decide_eq_false (by omega), decide_eq_true ⟨.inr (by decide), by omega⟩]; rfl
  · rw [show szL 2 = 2 from rfl, show szG 2 = 65535 from rfl, show hdI ((2 : Nat) : Int) = 25 from rfl]
    by_cases c : M < 0 ∨ 7 < M ∨ 2 = 5 ∨ 65535 < n ∨ (M = 7 ∧ (1 < 2 ∨ (2 = 1 ∧ n < 32)))
    · rw [decide_eq_true c, Bool.not_true]
      by_cases c2 : (hdS n : Int) ≤ 2
      · rw [decide_eq_true (by omega)]; rfl
      · rw [decide_eq_false (p := _ ∧ _) (by omega), Bool.and_false]
    · rw [decide_eq_false c, decide_eq_false (by omega), decide_eq_true ⟨.inr (by decide), by omega⟩]; rfl
  · rw [show szL 3 = 4 from rfl, show szG 3 = 4294967295 from rfl, show hdI ((4 : Nat) : Int) = 26 from rfl]
    by_cases c : M < 0 ∨ 7 < M ∨ 3 = 5 ∨ 4294967295 < n ∨ (M = 7 ∧ (1 < 3 ∨ (3 = 1 ∧ n < 32)))
    · rw [decide_eq_true c, Bool.not_true]
      by_cases c2 : (hdS n : Int) ≤ 4
      · rw [decide_eq_true (by omega)]; rfl
      · rw [decide_eq_false (p := _ ∧ _) (by omega), Bool.and_false]
    · rw [decide_eq_false c, decide_eq_false (by omega), decide_eq_true ⟨.inr (by decide), by omega⟩]; rfl
  · rw [show szL 4 = 8 from rfl, show szG 4 = 18446744073709551615 from rfl, show hdI ((8 : Nat) : Int) = 27 from rfl]
    by_cases c : M < 0 ∨ 7 < M ∨ 4 = 5 ∨ 18446744073709551615 < n ∨ (M = 7 ∧ (1 < 4 ∨ (4 = 1 ∧ n < 32)))
    · rw [decide_eq_true c, Bool.not_true]
      by_cases c2 : (hdS n : Int) ≤ 8
      · rw [decide_eq_true (by omega)]; rfl
      · rw [decide_eq_false (p := _ ∧ _) (by omega), Bool.and_false]
    · rw [decide_eq_false c, decide_eq_false (by omega), decide_eq_true ⟨.inr (by decide), by omega⟩]; rfl
theorem hdOk_none {M : Int} {n : Nat} {k : Int} (h : ¬ (k = 0 ∨ k = 1 ∨ k = 2 ∨ k = 4 ∨ k = 8)) : hdOk M n k = false := by
  cases hc : hdOk M n k with
  | false => rfl
  | true => exact absurd (hdOk_parts hc).2.2.1 h
set_option maxRecDepth 100000 in
set_option maxHeartbeats 2000000 in
theorem srefusal_any (M : Int) (n s : Nat) (hM1 : -9223372036854775808 ≤ M) (hM2 : M ≤ 9223372036854775807) (hn : n < 18446744073709551616) (hs : s ≤ 5) (w : World) :
    Calls Tryd.prog 66 #[.int .i64 M, .int .u64 (n : Int), .int .i64 (s : Int)] w fun e w' => e = .returned (.int .i64 (if rfB M n s then 1 else 0)) ∧ w = w' := by
  have HG := Lib.hid (fun h W => sgreatest_any s h W)
  have HB : Hid (rfB M n s = decide (M < 0 ∨ 7 < M ∨ s = 5 ∨ szG s < n ∨ (M = 7 ∧ (1 < s ∨ (s = 1 ∧ n < 32))))) := Lib.hid rfl
  obtain ⟨B, hB⟩ : ∃ B, rfB M n s = B := ⟨_, rfl⟩
  rw [hB] at HB ⊢
  clear hB
  by_cases c1 : M < 0
  · obtain rfl : B = true := by rw [HB.out]; exact decide_eq_true (by omega)
    clear HB
    go_enter Tryd.func66, Tryd.ntmps66
    go_wp2_with fail
    go_ret
    exact ⟨rfl, rfl⟩
  · by_cases c2 : 7 < M
    · obtain rfl : B = true := by rw [HB.out]; exact decide_eq_true (by omega)
      clear HB
      go_enter Tryd.func66, Tryd.ntmps66
      go_wp2_with fail
      go_ret
      exact ⟨rfl, rfl⟩
    · by_cases c3 : s = 5
      · subst c3
        obtain rfl : B = true := by rw [HB.out]; exact decide_eq_true (by omega)
        clear HB HG
        go_enter Tryd.func66, Tryd.ntmps66
        go_wp2_with fail
        go_ret
        exact ⟨rfl, rfl⟩
      · have k5 : ((s : Int) == 5) = false := neI (by omega)
        have H1 := Lib.hid (HG.out (by omega) w)
        obtain ⟨g, hg⟩ : ∃ g, szG s = g := ⟨_, rfl⟩
        rw [hg] at H1 HB
        have H5 := Lib.hid c3
        clear HG hg c3
        by_cases c4 : (g : Int) < (n : Int)
        · obtain rfl : B = true := by rw [HB.out]; exact decide_eq_true (by omega)
          clear HB
          go_enter Tryd.func66, Tryd.ntmps66
          go_wp2_with fail
          refine H1.out.mono ?_
          rintro e w' ⟨rfl, rfl⟩
          go_wp2_with fail
          go_ret
          exact ⟨rfl, rfl⟩
        · by_cases c5 : M = 7
          · subst c5
            by_cases c6 : (1 : Int) < (s : Int)
            · obtain rfl : B = true := by rw [HB.out]; exact decide_eq_true (by omega)
              clear HB c1 c2
              go_enter Tryd.func66, Tryd.ntmps66
              go_wp2_with fail
              refine H1.out.mono ?_
              rintro e w' ⟨rfl, rfl⟩
              go_wp2_with fail
              go_ret
              exact ⟨rfl, rfl⟩
            · by_cases c7 : s = 1
              · subst c7
                by_cases c8 : (n : Int) < 32
                · obtain rfl : B = true := by rw [HB.out]; exact decide_eq_true (by omega)
                  clear HB c1 c2 c6
                  go_enter Tryd.func66, Tryd.ntmps66
                  go_wp2_with fail
                  refine H1.out.mono ?_
                  rintro e w' ⟨rfl, rfl⟩
                  go_wp2_with fail
                  go_ret
                  exact ⟨rfl, rfl⟩
                · obtain rfl : B = false := by rw [HB.out]; exact decide_eq_false (by omega)
                  clear HB c1 c2 c6
                  go_enter Tryd.func66, Tryd.ntmps66
                  go_wp2_with fail
                  refine H1.out.mono ?_
                  rintro e w' ⟨rfl, rfl⟩
                  go_wp2_with fail
                  go_ret
                  exact ⟨rfl, rfl⟩
              · have k1 : ((s : Int) == 1) = false := neI (by omega)
                obtain rfl : B = false := by rw [HB.out]; exact decide_eq_false (by omega)
                clear HB c1 c2 c7
                go_enter Tryd.func66, Tryd.ntmps66
                go_wp2_with fail
                refine H1.out.mono ?_
                rintro e w' ⟨rfl, rfl⟩
                go_wp2_with fail
                go_ret
                exact ⟨rfl, rfl⟩
          · have k7 : (M == 7) = false := neI c5
            obtain rfl : B = false := by rw [HB.out]; exact decide_eq_false (by have := H5.out; omega)
            clear HB c5
            go_enter Tryd.func66, Tryd.ntmps66
            go_wp2_with fail
            refine H1.out.mono ?_
            rintro e w' ⟨rfl, rfl⟩
            go_wp2_with fail
            go_ret
            exact ⟨rfl, rfl⟩
set_option maxRecDepth 100000 in
set_option maxHeartbeats 8000000 in
theorem swrite_any (M : Int) (n s : Nat) (k : Int) (hM1 : -9223372036854775808 ≤ M) (hM2 : M ≤ 9223372036854775807) (hn : n < 18446744073709551616) (hk : (s ≤ 4 ∧ k = (szL s : Int)) ∨ (s = 5 ∧ ¬ (k = 0 ∨ k = 1 ∨ k = 2 ∨ k = 4 ∨ k = 8))) (w : World) :
    Calls Tryd.prog 55 #[.int .i64 M, .int .u64 (n : Int), .int .i64 (s : Int)] w (HdAns M n k w) := by
  obtain ⟨i0, hi, hz0, hz1, hz2⟩ := info_parts info_byte10
  have HB0 := Lib.hid (Below.refl w.heap.size w)
  have HR := Lib.hid (srefusal_any M n s hM1 hM2 hn (by omega) w)
  have HOK : Hid (hdOk M n k = !rfB M n s) := Lib.hid (by
    rcases hk with ⟨h1, rfl⟩ | ⟨rfl, h2⟩
    · exact rfB_no h1 hn
    · rw [hdOk_none h2]
      unfold rfB
      rw [decide_eq_true (by omega)]
      rfl)
  have HBD : Hid (rfB M n s = false → 0 ≤ M ∧ M ≤ 7 ∧ s ≤ 4 ∧ n ≤ szG s) := Lib.hid (fun h => by
    have := of_decide_eq_false h
    omega)
  obtain ⟨B, hB⟩ : ∃ B, rfB M n s = B := ⟨_, rfl⟩
  rw [hB] at HR HOK HBD
  clear hB
  cases B with
  | true =>
    have HF : Hid (hdOk M n k = false) := HOK
    clear HBD HOK hk
    rw [if_pos rfl] at HR
    go_enter Tryd.func55, Tryd.ntmps55
    go_wp2_with fail
    refine HR.out.mono ?_
    rintro e w' ⟨rfl, rfl⟩
    go_wp2_with fail
    exact bodyPost_ret (by simp [results, Tryd.results55, go_sem]) rfl ⟨.inr ⟨HF.out, rfl⟩, HB0.out⟩
  | false =>
    have HF : Hid (hdOk M n k = true) := HOK
    rw [if_neg (by decide)] at HR
    obtain ⟨m0, hm7, hs4, hng⟩ := HBD.out rfl
    obtain ⟨m, rfl⟩ := Int.eq_ofNat_of_zero_le m0
    have hm7 : m ≤ 7 := by omega
    obtain ⟨q, hq⟩ : ∃ q, szL s = q := ⟨_, rfl⟩
    obtain rfl : k = (q : Int) := by omega
    have hqs : (s = 0 ∧ q = 0) ∨ (s = 1 ∧ q = 1) ∨ (s = 2 ∧ q = 2) ∨ (s = 3 ∧ q = 4) ∨ (s = 4 ∧ q = 8) := by
      have h : s = 0 ∨ s = 1 ∨ s = 2 ∨ s = 3 ∨ s = 4 := by omega
      rcases h with rfl | rfl | rfl | rfl | rfl <;> simp [szL] at hq <;> omega
    have hn24 : s = 0 → n < 24 := by
      rintro rfl
      simp [szG] at hng
      omega
    have HL := Lib.hid (fun W => slength_any s (by omega) W)
    have HI := Lib.hid (fun W => sinfo_any s n hs4 hn24 hn W)
    obtain ⟨x, hx⟩ : ∃ x, (if s = 0 then n else 23 + s) = x := ⟨_, rfl⟩
    have hx32 : x < 32 := by rw [← hx]; split <;> omega
    have HJ := Lib.hid (fun W => sjoin_any m x hm7 hx32 W)
    have HD0 : Hid (hdB m n q 0 = m * 32 + x) := Lib.hid (by
      unfold hdB
      rw [if_pos rfl, ← hx]
      rcases hqs with ⟨rfl, rfl⟩ | ⟨rfl, rfl⟩ | ⟨rfl, rfl⟩ | ⟨rfl, rfl⟩ | ⟨rfl, rfl⟩ <;> rfl)
    have hd256 : m * 32 + x < 256 := by omega
    obtain ⟨d0, hd0⟩ : ∃ d, m * 32 + x = d := ⟨_, rfl⟩
    rw [hq] at HL
    rw [hx] at HI
    rw [hd0] at HJ HD0 hd256
    have hq8 : q ≤ 8 := by omega
    have HO0 : Hid ((w.alloc (.cells #[.int .u8 (d0 : Int)] 5)).ownsRow w.heap.size 5 1 (.slice (some ⟨w.heap.size, 0, none⟩) 1 1) 1 (vl .u8 (hdB m n q) 1)) := Lib.hid (by
      have h := World.ownsRow_lit (base := w.heap.size) (e := 5) (size := 1) w #[.int .u8 (d0 : Int)] 1 (Nat.le_refl _) (by simp [maxLen]) rfl
      have e : vl .u8 (hdB m n q) 1 = [.int .u8 (d0 : Int)] := by unfold vl; rw [List.range_succ]; simp [HD0.out]
      rw [e]
      exact h)
    have HB1 := Lib.hid ((Below.refl w.heap.size w).alloc (Nat.le_refl _) (.cells #[.int .u8 (d0 : Int)] 5))
    clear hk HBD HOK m0 hng hq hqs hn24 hx hx32 hd0 hs4
    go_enter Tryd.func55, Tryd.ntmps55
    go_wp2_with fail
    refine HR.out.mono ?_
    rintro e w' ⟨rfl, rfl⟩
    go_wp2_with fail
    refine (HI.out _).mono ?_
    rintro e w' ⟨rfl, rfl⟩
    go_wp2_with fail
    refine (HJ.out _).mono ?_
    rintro e w' ⟨rfl, rfl⟩
    go_wp2_with fail
    refine (HL.out _).mono ?_
    rintro e w' ⟨rfl, rfl⟩
    go_wp2_with fail
    go_loopw [9, 10] (fun s9 s10 wr => ∃ (j : Nat) (v : Value), j ≤ q ∧ s9 = v ∧ s10 = .int .i64 ((q : Int) - 1 - (j : Int)) ∧ (∃ A c, v = .slice A (j + 1) c) ∧ Hid (wr.ownsRow w.heap.size 5 1 v (j + 1) (vl .u8 (hdB m n q) (j + 1)) ∧ Below w.heap.size w wr)) (fun _ s10 _ => ((intOf s10) + 1).toNat)
    case atStart => exact ⟨0, _, Nat.zero_le _, rfl, congrArg (Value.int .i64) (by omega), ⟨_, _, rfl⟩, Lib.hid ⟨HO0.out, HB1.out⟩⟩
    case round =>
      obtain ⟨j, v, hj, rfl, rfl, ⟨A0, c0, rfl⟩, hO⟩ := hrel
      by_cases hlt : j < q
      · obtain ⟨i, hii⟩ : ∃ i : Nat, (q : Int) - 1 - (j : Int) = (i : Int) := ⟨q - 1 - j, by omega⟩
        rw [hii]
        have h8 : i = 0 ∨ i = 1 ∨ i = 2 ∨ i = 3 ∨ i = 4 ∨ i = 5 ∨ i = 6 ∨ i = 7 := by omega
        obtain ⟨d, hd⟩ : ∃ d, n / 256 ^ i % 256 = d := ⟨_, rfl⟩
        have hd256' : d < 256 := by rw [← hd]; exact Nat.mod_lt _ (by decide)
        have HDJ : Hid (hdB m n q (j + 1) = d) := Lib.hid (by unfold hdB; rw [if_neg (by omega), show q - (j + 1) = i by omega, hd])
        have U1 : Hid (∀ N : Nat, N = 256 ^ i → IntKind.u8.wrap ((n : Int) / (N : Int)) = (d : Int)) := Lib.hid (fun N hN => by
          rw [IntKind.wrap_u8, ← hd, hN]
          simp)
        have hO2 : ∀ (v1 : Value) (w1 : World), w1.ownsRow w.heap.size 5 1 v1 (j + 1 + 1) (vl .u8 (jn (hdB m n q) (j + 1) (fun _ => d)) (j + 1 + 1)) → Hid (w1.ownsRow w.heap.size 5 1 v1 (j + 1 + 1) (vl .u8 (hdB m n q) (j + 1 + 1))) := fun v1 w1 hown1 => Lib.hid (by
          rw [vl_congr .u8 (g := hdB m n q) (fun i hi => by
            rcases Nat.lt_or_ge i (j + 1) with h | h
            · exact jn_lo _ _ h
            · obtain rfl : i = j + 1 := by omega
              have := jn_hi (hdB m n q) (fun _ => d) (j + 1) 0
              rw [Nat.add_zero] at this
              rw [this, HDJ.out])] at hown1
          exact hown1)
        have HH2 := Lib.hid hO2
        clear hO2 hd
        rcases h8 with rfl | rfl | rfl | rfl | rfl | rfl | rfl | rfl
        all_goals
          first
            | (have u2 : IntKind.u8.wrap (n : Int) = (d : Int) := by have := U1.out 1 (by decide); rw [show ((1 : Nat) : Int) = 1 from rfl, Int.ediv_one] at this; exact this)
            | (have u2 : IntKind.u8.wrap ((n : Int) / 256) = (d : Int) := U1.out 256 (by decide))
            | (have u2 : IntKind.u8.wrap ((n : Int) / 65536) = (d : Int) := U1.out 65536 (by decide))
            | (have u2 : IntKind.u8.wrap ((n : Int) / 16777216) = (d : Int) := U1.out 16777216 (by decide))
            | (have u2 : IntKind.u8.wrap ((n : Int) / 4294967296) = (d : Int) := U1.out 4294967296 (by decide))
            | (have u2 : IntKind.u8.wrap ((n : Int) / 1099511627776) = (d : Int) := U1.out 1099511627776 (by decide))
            | (have u2 : IntKind.u8.wrap ((n : Int) / 281474976710656) = (d : Int) := U1.out 281474976710656 (by decide))
            | (have u2 : IntKind.u8.wrap ((n : Int) / 72057594037927936) = (d : Int) := U1.out 72057594037927936 (by decide))
          clear U1
          go_wp2_with (at_builtin; refine wpList_app rfl (.tmp 31) (.tmp 37) _ rfl w.heap.size 5 i0 _ 1 Tryd.underlying28 hi hz0 hz1 hz2 rfl .u8 _ (j + 1) (hdB m n q) rfl (hO.out.1.alloc _) _ 1 1 (fun _ => d) rfl (rd_one _ .u8 d _) (by first | (simp [maxLen]; done) | (simp [maxLen]; omega)) (by omega) (by rw [hsz]; exact Nat.le_succ_of_le hO.out.2.size) ?_; intro v1 w1 hown1 hb1)
          have HO2 := HH2.out _ _ hown1
          have HB2 := Lib.hid ((hO.out.2.alloc hO.out.2.size _).trans hb1)
          obtain ⟨A1, c1, rfl, _, _, _⟩ := Rd.of_own HO2.out
          clear hown1 hb1
          go_wp2_with fail
          go_roundw
          case rel => exact ⟨j + 1, _, by omega, rfl, congrArg (Value.int .i64) (by omega), ⟨_, _, rfl⟩, Lib.hid ⟨HO2.out, HB2.out⟩⟩
          case measure => simp [intOf]
      · obtain rfl : j = q := by omega
        have hneg : ((j : Int) - 1 - (j : Int)) = -1 := by omega
        rw [hneg]
        obtain ⟨A1, c1, e1, g1, g2, g3⟩ := Rd.of_own hO.out.1
        injection e1 with ea _ ec
        subst ea ec
        have HG := Lib.hid (And.intro g1 (And.intro g2 g3))
        have hBB := Lib.hid hO.out.2
        clear g1 g2 g3 hneg hO
        go_wp2_with fail
        exact bodyPost_ret (by simp [results, Tryd.results55, go_sem]) rfl ⟨.inl ⟨HF.out, _, _, rfl, HG.out.2.2, HG.out.1, HG.out.2.1⟩, hBB.out⟩
set_option maxRecDepth 100000 in
theorem hdput_any (M : Int) (n : Nat) (w : World) (hn : n < 18446744073709551616) (hM1 : -9223372036854775808 ≤ M) (hM2 : M ≤ 9223372036854775807) :
    Calls Tryd.prog 41 #[.int .i64 M, .int .u64 (n : Int)] w (HdAns M n (hdS n) w) := by
  have HN := Lib.hid (sleast_any n hn w)
  have HC := Lib.hid (swrite_any M n (szN n) (hdS n) hM1 hM2 hn (.inl ⟨(szN_len n).2, by rw [(szN_len n).1]⟩) w)
  obtain ⟨s, hs⟩ : ∃ s, szN n = s := ⟨_, rfl⟩
  rw [hs] at HN HC
  clear hs hn hM1 hM2
  go_enter Tryd.func41, Tryd.ntmps41
  go_wp2_with fail
  refine HN.out.mono ?_
  rintro e w' ⟨rfl, rfl⟩
  go_wp2_with fail
  refine HC.out.mono ?_
  rintro e w' ⟨⟨h1, A, c, rfl, h2⟩ | ⟨h1, rfl⟩, hb⟩
  · have HH := Lib.hid (And.intro h1 (And.intro h2 hb))
    clear h1 h2 hb
    go_wp2_with fail
    exact bodyPost_ret (by simp [results, Tryd.results41, go_sem]) rfl ⟨.inl ⟨HH.out.1, A, c, rfl, HH.out.2.1⟩, HH.out.2.2⟩
  · have HH := Lib.hid (And.intro h1 hb)
    clear h1 hb
    go_wp2_with fail
    exact bodyPost_ret (by simp [results, Tryd.results41, go_sem]) rfl ⟨.inr ⟨HH.out.1, rfl⟩, HH.out.2⟩
end Go.Proofs.YtlmabhpfmbebjaaDoor.nn
