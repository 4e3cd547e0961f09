/- Joined texts, what is wanted of them: HdB, HdC, HdD, HpA, HpB, HpC, HpOwn. -/
import Derived.Lib.Hide
import Derived.Deep.DeepCutAuto
import Derived.IntWalk
import Derived.Laws.BitsAllLaws
import Derived.Test.YtpcladdipgchbaaGreatDoorProg
import Derived.WalkKit
import Derived.WalkSpells
import Derived.Deep.QuietTactic
import Derived.BigQuiet
import Derived.Deep.RegionHeld3
import Derived.Test.YtpcladdipgchbaaGreatDoorShelf
import Derived.Deep.RegionWith
import Derived.Deep.CutBlock
import Derived.StillTailTactics
import Derived.Test.YtpcladdipgchbaaGreatDoorSd
import Derived.Test.YtpcladdipgchbaaGreatDoorSa
namespace Go.Proofs.YtpcladdipgchbaaGreatDoor.nn
open Go.RowKit

theorem info_byte10 : (Tryz.prog.info? 5).map (fun i => (i.zero, i.size, i.bytes)) = some (some (.int .u8 0), 1, 1) := by kernel_rfl
theorem neI {c k : Int} (h : c ≠ k) : (c == k) = false := by rw [beq_eq_false_iff_ne]; exact h
/-- what Wide answers -/
def HdAns (M : Int) (n : Nat) (k : Int) (w : World) (e : Ending) (w' : World) : Prop :=
  ((hdOk M n k = true ∧ ∃ A c, e = .returned (.tuple #[.slice A (k.toNat + 1) c, .int .i64 0]) ∧ Rd w' .u8 A (k.toNat + 1) (hdB M.toNat n k.toNat) ∧ k.toNat + 1 ≤ c ∧ c ≤ maxLen) ∨
   (hdOk M n k = false ∧ e = .returned (.tuple #[.slice none 0 0, .int .i64 1]))) ∧ Below w.heap.size w w'
theorem int_first {m x : Nat} (hm : m ≤ 7) (hx : x < 32) : bits .or .i64 ((m : Int) * 32) (x : Int) = ((m * 32 + x : Nat) : Int) := by
  have e1 : (m : Int) * 32 = ((m * 32 : Nat) : Int) := by omega
  rw [e1, i64_or_nat _ _ (by omega) (by omega), nat_join 5 _ _ (Nat.mul_mod_left m 32) hx]
end Go.Proofs.YtpcladdipgchbaaGreatDoor.nn
namespace Go.Proofs.YtpcladdipgchbaaGreatDoor.nn
open Go.RowKit

/-- what Get answers -/
def gtV (r : Nat × Nat × Nat × Nat × Nat) : Value := .tuple #[.int .i64 (r.1 : Int), .int .i64 (r.2.1 : Int), .int .u64 (r.2.2.1 : Int), .int .i64 (r.2.2.2.1 : Int), .int .i64 (r.2.2.2.2 : Int)]
def GtAns (f : Nat → Nat) (m : Nat) (w : World) (e : Ending) (w' : World) : Prop := e = .returned (gtV (gtR f m)) ∧ Below w.heap.size w w'
end Go.Proofs.YtpcladdipgchbaaGreatDoor.nn
namespace Go.Proofs.YtpcladdipgchbaaGreatDoor.nn
open Go.RowKit

theorem hd_up {v b : Nat} (hv : v * 256 + b < 18446744073709551616) (hb : b < 256) : bits BinOp.or IntKind.u64 ((v : Int) * 256) (b : Int) = ((v * 256 + b : Nat) : Int) := by
  have e : (v : Int) * 256 = ((v * 256 : Nat) : Int) := by omega
  have h1 : v * 256 < 18446744073709551616 := Nat.lt_of_le_of_lt (Nat.le_add_right _ _) hv
  have h2 : b < 18446744073709551616 := Nat.lt_of_le_of_lt (Nat.le_add_left _ _) hv
  rw [e, u64_or_nat (v * 256) b h1 h2, nat_join 8 (v * 256) b (Nat.mul_mod_left v 256) hb]
theorem be_lt10 {b : Nat → Nat} {n : Nat} (h : ∀ i, i < n → b i < 256) : be b n < 256 ^ n := by
  induction n with
  | zero => simp [be]
  | succ n ih =>
    have h1 := ih fun i hi => h i (by omega)
    have h2 := h n (by omega)
    rw [be, Nat.pow_succ]
    omega
theorem be_64 {b : Nat → Nat} {n : Nat} (h : ∀ i, i < n → b i < 256) (hn : n ≤ 8) : be b n < 18446744073709551616 :=
  Nat.lt_of_lt_of_le (be_lt10 h) (Nat.le_trans (Nat.pow_le_pow_right (by decide) hn) (by decide +kernel))
theorem u8_31 (a : Nat) (ha : a < 256) : bits .and .u8 (a : Int) 31 = ((a % 32 : Nat) : Int) :=
  (u8_and_nat a 31 ha (by decide)).trans (by rw [and_mask a 5])
end Go.Proofs.YtpcladdipgchbaaGreatDoor.nn
namespace Go.Proofs.YtpcladdipgchbaaGreatDoor.nn
open Go.RowKit

/-- how many bytes a size has -/
def szL (s : Nat) : Nat := if s = 0 then 0 else if s = 1 then 1 else if s = 2 then 2 else if s = 3 then 4 else if s = 4 then 8 else 16
/-- the greatest number of a size -/
def szG (s : Nat) : Nat := if s = 0 then 23 else if s = 1 then 255 else if s = 2 then 65535 else if s = 3 then 4294967295 else 18446744073709551615
/-- the size behind an info -/
def szI (x : Nat) : Nat := if x ≤ 23 ∨ x = 31 then 0 else if x < 28 then x - 23 else 5
/-- the least size that has a number -/
def szN (n : Nat) : Nat := if n < 24 then 0 else if n < 256 then 1 else if n < 65536 then 2 else if n < 4294967296 then 3 else 4
theorem szN_cases (n : Nat) : (n < 24 ∧ szN n = 0) ∨ (24 ≤ n ∧ n < 256 ∧ szN n = 1) ∨ (256 ≤ n ∧ n < 65536 ∧ szN n = 2) ∨ (65536 ≤ n ∧ n < 4294967296 ∧ szN n = 3) ∨ (4294967296 ≤ n ∧ szN n = 4) := by
  unfold szN
  by_cases h1 : n < 24
  · exact .inl ⟨h1, if_pos h1⟩
  · by_cases h2 : n < 256
    · exact .inr (.inl ⟨by omega, h2, by rw [if_neg h1, if_pos h2]⟩)
    · by_cases h3 : n < 65536
      · exact .inr (.inr (.inl ⟨by omega, h3, by rw [if_neg h1, if_neg h2, if_pos h3]⟩))
      · by_cases h4 : n < 4294967296
        · exact .inr (.inr (.inr (.inl ⟨by omega, h4, by rw [if_neg h1, if_neg h2, if_neg h3, if_pos h4]⟩)))
        · exact .inr (.inr (.inr (.inr ⟨by omega, by rw [if_neg h1, if_neg h2, if_neg h3, if_neg h4]⟩)))
theorem szN_len (n : Nat) : szL (szN n) = hdS n ∧ szN n ≤ 4 := by
  have h2 := hdS_cases n
  rcases szN_cases n with ⟨_, e⟩ | ⟨_, _, e⟩ | ⟨_, _, e⟩ | ⟨_, _, e⟩ | ⟨_, e⟩ <;> rw [e] <;> simp [szL] <;> omega
theorem szN_lt {n i : Nat} (h : i < szN n) : szG i < n := by
  have hi : i = 0 ∨ i = 1 ∨ i = 2 ∨ i = 3 := by have := (szN_len n).2; omega
  have := szN_cases n
  rcases hi with rfl | rfl | rfl | rfl <;> simp [szG] <;> omega
theorem szN_le {n : Nat} (hn : n < 18446744073709551616) : n ≤ szG (szN n) := by
  rcases szN_cases n with ⟨_, e⟩ | ⟨_, _, e⟩ | ⟨_, _, e⟩ | ⟨_, _, e⟩ | ⟨_, e⟩ <;> rw [e] <;> simp [szG] <;> omega
set_option maxRecDepth 100000 in
theorem slength_any (s : Nat) (hs : s ≤ 5) (w : World) : Calls Tryz.prog 97 #[.int .i64 (s : Int)] w fun e w' => e = .returned (.int .i64 (szL s : Int)) ∧ w = w' := by
  have h : s = 0 ∨ s = 1 ∨ s = 2 ∨ s = 3 ∨ s = 4 ∨ s = 5 := by omega
  clear hs
  rcases h with rfl | rfl | rfl | rfl | rfl | rfl
  all_goals
    go_enter Tryz.func97, Tryz.ntmps97
    go_wp2_with fail
    go_ret
    exact ⟨rfl, rfl⟩
set_option maxRecDepth 100000 in
theorem sgreatest_any (s : Nat) (hs : s ≤ 4) (w : World) : Calls Tryz.prog 137 #[.int .i64 (s : Int)] w fun e w' => e = .returned (.int .u64 (szG s : Int)) ∧ w = w' := by
  have HL := Lib.hid (fun s h W => slength_any s h W)
  have h : s = 0 ∨ s = 1 ∨ s = 2 ∨ s = 3 ∨ s = 4 := by omega
  clear hs
  rcases h with rfl | rfl | rfl | rfl | rfl
  · go_enter Tryz.func137, Tryz.ntmps137
    go_wp2_with fail
    go_ret
    exact ⟨rfl, rfl⟩
  · have H1 := Lib.hid (fun W => HL.out 1 (by decide) W)
    go_enter Tryz.func137, Tryz.ntmps137
    go_wp2_with fail
    refine (H1.out _).mono ?_
    rintro e w' ⟨rfl, rfl⟩
    rw [show szL 1 = 1 from rfl]
    go_wp2_with fail
    go_ret
    exact ⟨rfl, rfl⟩
  · have H1 := Lib.hid (fun W => HL.out 2 (by decide) W)
    go_enter Tryz.func137, Tryz.ntmps137
    go_wp2_with fail
    refine (H1.out _).mono ?_
    rintro e w' ⟨rfl, rfl⟩
    rw [show szL 2 = 2 from rfl]
    go_wp2_with fail
    go_ret
    exact ⟨rfl, rfl⟩
  · have H1 := Lib.hid (fun W => HL.out 3 (by decide) W)
    go_enter Tryz.func137, Tryz.ntmps137
    go_wp2_with fail
    refine (H1.out _).mono ?_
    rintro e w' ⟨rfl, rfl⟩
    rw [show szL 3 = 4 from rfl]
    go_wp2_with fail
    go_ret
    exact ⟨rfl, rfl⟩
  · have H1 := Lib.hid (fun W => HL.out 4 (by decide) W)
    go_enter Tryz.func137, Tryz.ntmps137
    go_wp2_with fail
    refine (H1.out _).mono ?_
    rintro e w' ⟨rfl, rfl⟩
    rw [show szL 4 = 8 from rfl]
    go_wp2_with fail
    go_ret
    exact ⟨rfl, rfl⟩
set_option maxRecDepth 100000 in
theorem sinfo_any (s n : Nat) (hs : s ≤ 4) (hn : s = 0 → n < 24) (_ : n < 18446744073709551616) (w : World) : Calls Tryz.prog 136 #[.int .i64 (s : Int), .int .u64 (n : Int)] w fun e w' => e = .returned (.int .i64 ((if s = 0 then n else 23 + s : Nat) : Int)) ∧ w = w' := by
  by_cases h : s = 0
  · subst h
    have h24 := hn rfl
    rw [if_pos rfl]
    clear hs hn
    go_enter Tryz.func136, Tryz.ntmps136
    go_wp2_with fail
    go_ret
    exact ⟨rfl, rfl⟩
  · have k0 : ((s : Int) == 0) = false := neI (by omega)
    obtain ⟨r, hr⟩ : ∃ r, (if s = 0 then n else 23 + s) = r := ⟨_, rfl⟩
    have e : (23 : Int) + (s : Int) = (r : Int) := by rw [← hr, if_neg h]; omega
    have er : r ≤ 27 := by rw [← hr, if_neg h]; omega
    rw [hr]
    clear hr h hn
    go_enter Tryz.func136, Tryz.ntmps136
    go_wp2_with fail
    go_ret
    exact ⟨by first | rfl | (rw [e]), rfl⟩
set_option maxRecDepth 100000 in
theorem sjoin_any (m x : Nat) (hm : m ≤ 7) (hx : x < 32) (w : World) : Calls Tryz.prog 135 #[.int .i64 (m : Int), .int .i64 (x : Int)] w fun e w' => e = .returned (.int .u8 ((m * 32 + x : Nat) : Int)) ∧ w = w' := by
  have hb := int_first hm hx
  have hb8 : IntKind.u8.wrap ((m * 32 + x : Nat) : Int) = ((m * 32 + x : Nat) : Int) := by rw [IntKind.wrap_u8]; omega
  obtain ⟨d, hd⟩ : ∃ d, m * 32 + x = d := ⟨_, rfl⟩
  rw [hd] at hb hb8 ⊢
  clear hd
  go_enter Tryz.func135, Tryz.ntmps135
  go_wp2_with fail
  go_ret
  exact ⟨rfl, rfl⟩
set_option maxRecDepth 100000 in
theorem ssplit_any (x : Nat) (hx : x < 256) (w : World) : Calls Tryz.prog 95 #[.int .u8 (x : Int)] w fun e w' => e = .returned (.tuple #[.int .i64 ((x / 32 : Nat) : Int), .int .i64 ((x % 32 : Nat) : Int)]) ∧ w = w' := by
  have ka := u8_31 x hx
  have kb : (x : Int) / 32 = ((x / 32 : Nat) : Int) := by omega
  obtain ⟨p, hp⟩ : ∃ p, x / 32 = p := ⟨_, rfl⟩
  obtain ⟨q, hq⟩ : ∃ q, x % 32 = q := ⟨_, rfl⟩
  have hp8 : p < 8 := by omega
  have hq8 : q < 32 := by omega
  rw [hq] at ka ⊢
  rw [hp] at kb ⊢
  clear hp hq
  go_enter Tryz.func95, Tryz.ntmps95
  go_wp2_with fail
  exact bodyPost_ret (by simp [results, Tryz.results95, go_sem]) rfl ⟨rfl, rfl⟩
set_option maxRecDepth 100000 in
theorem scanopen_any (M : Nat) (hM : M ≤ 7) (w : World) : Calls Tryz.prog 133 #[.int .i64 (M : Int)] w fun e w' => e = .returned (.bool (decide (2 ≤ M ∧ M ≠ 6))) ∧ w = w' := by
  have h : M = 0 ∨ M = 1 ∨ M = 2 ∨ M = 3 ∨ M = 4 ∨ M = 5 ∨ M = 6 ∨ M = 7 := by omega
  clear hM
  rcases h with rfl | rfl | rfl | rfl | rfl | rfl | rfl | rfl
  all_goals
    go_enter Tryz.func133, Tryz.ntmps133
    go_wp2_with fail
    go_ret
    exact ⟨rfl, rfl⟩
set_option maxRecDepth 100000 in
theorem sbehind_any (x : Nat) (hx : x ≤ 31) (w : World) : Calls Tryz.prog 96 #[.int .i64 (x : Int)] w fun e w' => e = .returned (.int .i64 (szI x : Int)) ∧ w = w' := by
  by_cases h1 : (x : Int) ≤ 23
  · have e : szI x = 0 := by unfold szI; rw [if_pos (by omega)]
    rw [e]
    clear e
    go_enter Tryz.func96, Tryz.ntmps96
    go_wp2_with fail
    go_ret
    exact ⟨rfl, rfl⟩
  · by_cases h2 : x = 31
    · subst h2
      clear h1 hx
      go_enter Tryz.func96, Tryz.ntmps96
      go_wp2_with fail
      go_ret
      exact ⟨rfl, rfl⟩
    · have k31 : ((x : Int) == 31) = false := neI (by omega)
      by_cases h3 : (x : Int) < 28
      · obtain ⟨r, hr⟩ : ∃ r, szI x = r := ⟨_, rfl⟩
        have e : (x : Int) - 23 = (r : Int) := by
          rw [← hr]
          unfold szI
          rw [if_neg (by omega), if_pos (by omega)]
          omega
        rw [hr]
        clear hr h2
        go_enter Tryz.func96, Tryz.ntmps96
        go_wp2_with fail
        go_ret
        exact ⟨by first | rfl | (rw [e]), rfl⟩
      · have e : szI x = 5 := by unfold szI; rw [if_neg (by omega), if_neg (by omega)]
        rw [e]
        clear e h2
        go_enter Tryz.func96, Tryz.ntmps96
        go_wp2_with fail
        go_ret
        exact ⟨rfl, rfl⟩
set_option maxRecDepth 100000 in
theorem sleast_any (n : Nat) (hn : n < 18446744073709551616) (w : World) : Calls Tryz.prog 100 #[.int .u64 (n : Int)] w fun e w' => e = .returned (.int .i64 (szN n : Int)) ∧ w = w' := by
  have HG := Lib.hid (fun s h W => sgreatest_any s h W)
  have h4 : szN n ≤ 4 := (szN_len n).2
  have HLT := Lib.hid (fun i (h : i < szN n) => szN_lt h)
  have HLE := Lib.hid (szN_le hn)
  obtain ⟨q, hq⟩ : ∃ q, szN n = q := ⟨_, rfl⟩
  rw [hq] at h4 HLT HLE ⊢
  clear hq
  go_enter Tryz.func100, Tryz.ntmps100
  go_wp2_with fail
  go_loopw [3] (fun s3 wr => ∃ i : Nat, i ≤ q ∧ s3 = .int .i64 (i : Int) ∧ w = wr) (fun s3 _ => q - (intOf s3).toNat)
  case atStart => exact ⟨0, Nat.zero_le _, rfl, rfl⟩
  case round =>
    obtain ⟨i, hi, rfl, rfl⟩ := hrel
    have H1 := Lib.hid (fun W => HG.out i (by omega) W)
    obtain ⟨g, hg⟩ : ∃ g, szG i = g := ⟨_, rfl⟩
    rw [hg] at H1
    by_cases hlt : i < q
    · have h1 : ((g : Nat) : Int) < (n : Int) := by have := HLT.out i hlt; omega
      clear hg
      go_wp2_with fail
      refine (H1.out _).mono ?_
      rintro e w' ⟨rfl, rfl⟩
      go_wp2_with fail
      go_roundw
      case rel => exact ⟨i + 1, hlt, by go_num, trivial⟩
      case measure => simp [intOf]; omega
    · obtain rfl : i = q := by omega
      have h1 : ¬ ((g : Nat) : Int) < (n : Int) := by have := HLE.out; omega
      clear hg
      go_wp2_with fail
      refine (H1.out _).mono ?_
      rintro e w' ⟨rfl, rfl⟩
      go_wp2_with fail
      exact bodyPost_ret (by simp [results, Tryz.results100, go_sem]) rfl ⟨rfl, by first | rfl | trivial⟩
end Go.Proofs.YtpcladdipgchbaaGreatDoor.nn
namespace Go.Proofs.YtpcladdipgchbaaGreatDoor.nn
open Go.RowKit

/-- is a head refused -/
def rfB (M : Int) (n s : Nat) : Bool := decide (M < 0 ∨ 7 < M ∨ s = 5 ∨ szG s < n ∨ (M = 7 ∧ (1 < s ∨ (s = 1 ∧ n < 32))))
theorem rfB_no {M : Int} {n s : Nat} (hs : s ≤ 4) (hn : n < 18446744073709551616) : hdOk M n (szL s : Int) = !rfB M n s := by
  have h : s = 0 ∨ s = 1 ∨ s = 2 ∨ s = 3 ∨ s = 4 := by omega
  have hS := hdS_cases n
  unfold hdOk hdX rfB
  rcases h with rfl | rfl | rfl | rfl | rfl
  · rw [show szL 0 = 0 from rfl, show szG 0 = 23 from rfl]
    by_cases c : M < 0 ∨ 7 < M ∨ 0 = 5 ∨ 23 < n ∨ (M = 7 ∧ (1 < 0 ∨ (0 = 1 ∧ n < 32)))
    · rw [decide_eq_true c, Bool.not_true]
      by_cases c2 : (hdS n : Int) ≤ 0
      · rw [decide_eq_true (by omega)]; rfl
      · rw [decide_eq_false (p := _ ∧ _) (by omega), Bool.and_false]
    · rw [decide_eq_false c, decide_eq_false (by omega), decide_eq_true ⟨.inl rfl, by omega⟩]; rfl
  · rw [show szL 1 = 1 from rfl, show szG 1 = 255 from rfl, show hdI ((1 : Nat) : Int) = 24 from rfl]
    by_cases c : M < 0 ∨ 7 < M ∨ 1 = 5 ∨ 255 < n ∨ (M = 7 ∧ (1 < 1 ∨ (1 = 1 ∧ n < 32)))
    · rw [decide_eq_true c, Bool.not_true]
      by_cases c2 : (hdS n : Int) ≤ 1
      · rw [decide_eq_true (by omega)]; rfl
      · rw [decide_eq_false (p := _ ∧ _) (by omega), Bool.and_false]
    · rw [decide_eq_false c, decide_eq_false (by omega), decide_eq_true ⟨.inr (by decide), by omega⟩]; rfl
  · rw [show szL 2 = 2 from rfl, show szG 2 = 65535 from rfl, show hdI ((2 : Nat) : Int) = 25 from rfl]
    by_cases c : M < 0 ∨ 7 < M ∨ 2 = 5 ∨ 65535 < n ∨ (M = 7 ∧ (1 < 2 ∨ (2 = 1 ∧ n < 32)))
    · rw [decide_eq_true c, Bool.not_true]
      by_cases c2 : (hdS n : Int) ≤ 2
      · rw [decide_eq_true (by omega)]; rfl
      · rw [decide_eq_false (p := _ ∧ _) (by omega), Bool.and_false]
    · rw [decide_eq_false c, decide_eq_false (by omega), decide_eq_true ⟨.inr (by decide), by omega⟩]; rfl
  · rw [show szL 3 = 4 from rfl, show szG 3 = 4294967295 from rfl, show hdI ((4 : Nat) : Int) = 26 from rfl]
    by_cases c : M < 0 ∨ 7 < M ∨ 3 = 5 ∨ 4294967295 < n ∨ (M = 7 ∧ (1 < 3 ∨ (3 = 1 ∧ n < 32)))
    · rw [decide_eq_true c, Bool.not_true]
      by_cases c2 : (hdS n : Int) ≤ 4
      · rw [decide_eq_true (by omega)]; rfl
      · rw [decide_eq_false (p := _ ∧ _) (by omega), Bool.and_false]
    · rw [decide_eq_false c, decide_eq_false (by omega), decide_eq_true ⟨.inr (by decide), by omega⟩]; rfl
  · rw [show szL 4 = 8 from rfl, show szG 4 = 18446744073709551615 from rfl, show hdI ((8 : Nat) : Int) = 27 from rfl]
    by_cases c : M < 0 ∨ 7 < M ∨ 4 = 5 ∨ 18446744073709551615 < n ∨ (M = 7 ∧ (1 < 4 ∨ (4 = 1 ∧ n < 32)))
    · rw [decide_eq_true c, Bool.not_true]
      by_cases c2 : (hdS n : Int) ≤ 8
      · rw [decide_eq_true (by omega)]; rfl
      · rw [decide_eq_false (p := _ ∧ _) (by omega), Bool.and_false]
    · rw [decide_eq_false c, decide_eq_false (by omega), decide_eq_true ⟨.inr (by decide), by omega⟩]; rfl
theorem hdOk_none {M : Int} {n : Nat} {k : Int} (h : ¬ (k = 0 ∨ k = 1 ∨ k = 2 ∨ k = 4 ∨ k = 8)) : hdOk M n k = false := by
  cases hc : hdOk M n k with
  | false => rfl
  | true => exact absurd (hdOk_parts hc).2.2.1 h
set_option maxRecDepth 100000 in
set_option maxHeartbeats 2000000 in
theorem srefusal_any (M : Int) (n s : Nat) (hM1 : -9223372036854775808 ≤ M) (hM2 : M ≤ 9223372036854775807) (hn : n < 18446744073709551616) (hs : s ≤ 5) (w : World) :
    Calls Tryz.prog 134 #[.int .i64 M, .int .u64 (n : Int), .int .i64 (s : Int)] w fun e w' => e = .returned (.int .i64 (if rfB M n s then 1 else 0)) ∧ w = w' := by
  have HG := Lib.hid (fun h W => sgreatest_any s h W)
  have HB : Hid (rfB M n s = decide (M < 0 ∨ 7 < M ∨ s = 5 ∨ szG s < n ∨ (M = 7 ∧ (1 < s ∨ (s = 1 ∧ n < 32))))) := Lib.hid rfl
  obtain ⟨B, hB⟩ : ∃ B, rfB M n s = B := ⟨_, rfl⟩
  rw [hB] at HB ⊢
  clear hB
  by_cases c1 : M < 0
  · obtain rfl : B = true := by rw [HB.out]; exact decide_eq_true (by omega)
    clear HB
    go_enter Tryz.func134, Tryz.ntmps134
    go_wp2_with fail
    go_ret
    exact ⟨rfl, rfl⟩
  · by_cases c2 : 7 < M
    · obtain rfl : B = true := by rw [HB.out]; exact decide_eq_true (by omega)
      clear HB
      go_enter Tryz.func134, Tryz.ntmps134
      go_wp2_with fail
      go_ret
      exact ⟨rfl, rfl⟩
    · by_cases c3 : s = 5
      · subst c3
        obtain rfl : B = true := by rw [HB.out]; exact decide_eq_true (by omega)
        clear HB HG
        go_enter Tryz.func134, Tryz.ntmps134
        go_wp2_with fail
        go_ret
        exact ⟨rfl, rfl⟩
      · have k5 : ((s : Int) == 5) = false := neI (by omega)
        have H1 := Lib.hid (HG.out (by omega) w)
        obtain ⟨g, hg⟩ : ∃ g, szG s = g := ⟨_, rfl⟩
        rw [hg] at H1 HB
        have H5 := Lib.hid c3
        clear HG hg c3
        by_cases c4 : (g : Int) < (n : Int)
        · obtain rfl : B = true := by rw [HB.out]; exact decide_eq_true (by omega)
          clear HB
          go_enter Tryz.func134, Tryz.ntmps134
          go_wp2_with fail
          refine H1.out.mono ?_
          rintro e w' ⟨rfl, rfl⟩
          go_wp2_with fail
          go_ret
          exact ⟨rfl, rfl⟩
        · by_cases c5 : M = 7
          · subst c5
            by_cases c6 : (1 : Int) < (s : Int)
            · obtain rfl : B = true := by rw [HB.out]; exact decide_eq_true (by omega)
              clear HB c1 c2
              go_enter Tryz.func134, Tryz.ntmps134
              go_wp2_with fail
              refine H1.out.mono ?_
              rintro e w' ⟨rfl, rfl⟩
              go_wp2_with fail
              go_ret
              exact ⟨rfl, rfl⟩
            · by_cases c7 : s = 1
              · subst c7
                by_cases c8 : (n : Int) < 32
                · obtain rfl : B = true := by rw [HB.out]; exact decide_eq_true (by omega)
                  clear HB c1 c2 c6
                  go_enter Tryz.func134, Tryz.ntmps134
                  go_wp2_with fail
                  refine H1.out.mono ?_
                  rintro e w' ⟨rfl, rfl⟩
                  go_wp2_with fail
                  go_ret
                  exact ⟨rfl, rfl⟩
                · obtain rfl : B = false := by rw [HB.out]; exact decide_eq_false (by omega)
                  clear HB c1 c2 c6
                  go_enter Tryz.func134, Tryz.ntmps134
                  go_wp2_with fail
                  refine H1.out.mono ?_
                  rintro e w' ⟨rfl, rfl⟩
                  go_wp2_with fail
                  go_ret
                  exact ⟨rfl, rfl⟩
              · have k1 : ((s : Int) == 1) = false := neI (by omega)
                obtain rfl : B = false := by rw [HB.out]; exact decide_eq_false (by omega)
                clear HB c1 c2 c7
                go_enter Tryz.func134, Tryz.ntmps134
                go_wp2_with fail
                refine H1.out.mono ?_
                rintro e w' ⟨rfl, rfl⟩
                go_wp2_with fail
                go_ret
                exact ⟨rfl, rfl⟩
          · have k7 : (M == 7) = false := neI c5
            obtain rfl : B = false := by rw [HB.out]; exact decide_eq_false (by have := H5.out; omega)
            clear HB c5
            go_enter Tryz.func134, Tryz.ntmps134
            go_wp2_with fail
            refine H1.out.mono ?_
            rintro e w' ⟨rfl, rfl⟩
            go_wp2_with fail
            go_ret
            exact ⟨rfl, rfl⟩
set_option maxRecDepth 100000 in
set_option maxHeartbeats 8000000 in
theorem swrite_any (M : Int) (n s : Nat) (k : Int) (hM1 : -9223372036854775808 ≤ M) (hM2 : M ≤ 9223372036854775807) (hn : n < 18446744073709551616) (hk : (s ≤ 4 ∧ k = (szL s : Int)) ∨ (s = 5 ∧ ¬ (k = 0 ∨ k = 1 ∨ k = 2 ∨ k = 4 ∨ k = 8))) (w : World) :
    Calls Tryz.prog 99 #[.int .i64 M, .int .u64 (n : Int), .int .i64 (s : Int)] w (HdAns M n k w) := by
  obtain ⟨i0, hi, hz0, hz1, hz2⟩ := info_parts info_byte10
  have HB0 := Lib.hid (Below.refl w.heap.size w)
  have HR := Lib.hid (srefusal_any M n s hM1 hM2 hn (by omega) w)
  have HOK : Hid (hdOk M n k = !rfB M n s) := Lib.hid (by
    rcases hk with ⟨h1, rfl⟩ | ⟨rfl, h2⟩
    · exact rfB_no h1 hn
    · rw [hdOk_none h2]
      unfold rfB
      rw [decide_eq_true (by omega)]
      rfl)
  have HBD : Hid (rfB M n s = false → 0 ≤ M ∧ M ≤ 7 ∧ s ≤ 4 ∧ n ≤ szG s) := Lib.hid (fun h => by
    have := of_decide_eq_false h
    omega)
  obtain ⟨B, hB⟩ : ∃ B, rfB M n s = B := ⟨_, rfl⟩
  rw [hB] at HR HOK HBD
  clear hB
  cases B with
  | true =>
    have HF : Hid (hdOk M n k = false) := HOK
    clear HBD HOK hk
    rw [if_pos rfl] at HR
    go_enter Tryz.func99, Tryz.ntmps99
    go_wp2_with fail
    refine HR.out.mono ?_
    rintro e w' ⟨rfl, rfl⟩
    go_wp2_with fail
    exact bodyPost_ret (by simp [results, Tryz.results99, go_sem]) rfl ⟨.inr ⟨HF.out, rfl⟩, HB0.out⟩
  | false =>
    have HF : Hid (hdOk M n k = true) := HOK
    rw [if_neg (by decide)] at HR
    obtain ⟨m0, hm7, hs4, hng⟩ := HBD.out rfl
    obtain ⟨m, rfl⟩ := Int.eq_ofNat_of_zero_le m0
    have hm7 : m ≤ 7 := by omega
    obtain ⟨q, hq⟩ : ∃ q, szL s = q := ⟨_, rfl⟩
    obtain rfl : k = (q : Int) := by omega
    have hqs : (s = 0 ∧ q = 0) ∨ (s = 1 ∧ q = 1) ∨ (s = 2 ∧ q = 2) ∨ (s = 3 ∧ q = 4) ∨ (s = 4 ∧ q = 8) := by
      have h : s = 0 ∨ s = 1 ∨ s = 2 ∨ s = 3 ∨ s = 4 := by omega
      rcases h with rfl | rfl | rfl | rfl | rfl <;> simp [szL] at hq <;> omega
    have hn24 : s = 0 → n < 24 := by
      rintro rfl
      simp [szG] at hng
      omega
    have HL := Lib.hid (fun W => slength_any s (by omega) W)
    have HI := Lib.hid (fun W => sinfo_any s n hs4 hn24 hn W)
    obtain ⟨x, hx⟩ : ∃ x, (if s = 0 then n else 23 + s) = x := ⟨_, rfl⟩
    have hx32 : x < 32 := by rw [← hx]; split <;> omega
    have HJ := Lib.hid (fun W => sjoin_any m x hm7 hx32 W)
    have HD0 : Hid (hdB m n q 0 = m * 32 + x) := Lib.hid (by
      unfold hdB
      rw [if_pos rfl, ← hx]
      rcases hqs with ⟨rfl, rfl⟩ | ⟨rfl, rfl⟩ | ⟨rfl, rfl⟩ | ⟨rfl, rfl⟩ | ⟨rfl, rfl⟩ <;> rfl)
    have hd256 : m * 32 + x < 256 := by omega
    obtain ⟨d0, hd0⟩ : ∃ d, m * 32 + x = d := ⟨_, rfl⟩
    rw [hq] at HL
    rw [hx] at HI
    rw [hd0] at HJ HD0 hd256
    have hq8 : q ≤ 8 := by omega
    have HO0 : Hid ((w.alloc (.cells #[.int .u8 (d0 : Int)] 5)).ownsRow w.heap.size 5 1 (.slice (some ⟨w.heap.size, 0, none⟩) 1 1) 1 (vl .u8 (hdB m n q) 1)) := Lib.hid (by
      have h := World.ownsRow_lit (base := w.heap.size) (e := 5) (size := 1) w #[.int .u8 (d0 : Int)] 1 (Nat.le_refl _) (by simp [maxLen]) rfl
      have e : vl .u8 (hdB m n q) 1 = [.int .u8 (d0 : Int)] := by unfold vl; rw [List.range_succ]; simp [HD0.out]
      rw [e]
      exact h)
    have HB1 := Lib.hid ((Below.refl w.heap.size w).alloc (Nat.le_refl _) (.cells #[.int .u8 (d0 : Int)] 5))
    clear hk HBD HOK m0 hng hq hqs hn24 hx hx32 hd0 hs4
    go_enter Tryz.func99, Tryz.ntmps99
    go_wp2_with fail
    refine HR.out.mono ?_
    rintro e w' ⟨rfl, rfl⟩
    go_wp2_with fail
    refine (HI.out _).mono ?_
    rintro e w' ⟨rfl, rfl⟩
    go_wp2_with fail
    refine (HJ.out _).mono ?_
    rintro e w' ⟨rfl, rfl⟩
    go_wp2_with fail
    refine (HL.out _).mono ?_
    rintro e w' ⟨rfl, rfl⟩
    go_wp2_with fail
    go_loopw [9, 10] (fun s9 s10 wr => ∃ (j : Nat) (v : Value), j ≤ q ∧ s9 = v ∧ s10 = .int .i64 ((q : Int) - 1 - (j : Int)) ∧ (∃ A c, v = .slice A (j + 1) c) ∧ Hid (wr.ownsRow w.heap.size 5 1 v (j + 1) (vl .u8 (hdB m n q) (j + 1)) ∧ Below w.heap.size w wr)) (fun _ s10 _ => ((intOf s10) + 1).toNat)
    case atStart => exact ⟨0, _, Nat.zero_le _, rfl, congrArg (Value.int .i64) (by omega), ⟨_, _, rfl⟩, Lib.hid ⟨HO0.out, HB1.out⟩⟩
    case round =>
      obtain ⟨j, v, hj, rfl, rfl, ⟨A0, c0, rfl⟩, hO⟩ := hrel
      by_cases hlt : j < q
      · obtain ⟨i, hii⟩ : ∃ i : Nat, (q : Int) - 1 - (j : Int) = (i : Int) := ⟨q - 1 - j, by omega⟩
        rw [hii]
        have h8 : i = 0 ∨ i = 1 ∨ i = 2 ∨ i = 3 ∨ i = 4 ∨ i = 5 ∨ i = 6 ∨ i = 7 := by omega
        obtain ⟨d, hd⟩ : ∃ d, n / 256 ^ i % 256 = d := ⟨_, rfl⟩
        have hd256' : d < 256 := by rw [← hd]; exact Nat.mod_lt _ (by decide)
        have HDJ : Hid (hdB m n q (j + 1) = d) := Lib.hid (by unfold hdB; rw [if_neg (by omega), show q - (j + 1) = i by omega, hd])
        have U1 : Hid (∀ N : Nat, N = 256 ^ i → IntKind.u8.wrap ((n : Int) / (N : Int)) = (d : Int)) := Lib.hid (fun N hN => by
          rw [IntKind.wrap_u8, ← hd, hN]
          simp)
        have hO2 : ∀ (v1 : Value) (w1 : World), w1.ownsRow w.heap.size 5 1 v1 (j + 1 + 1) (vl .u8 (jn (hdB m n q) (j + 1) (fun _ => d)) (j + 1 + 1)) → Hid (w1.ownsRow w.heap.size 5 1 v1 (j + 1 + 1) (vl .u8 (hdB m n q) (j + 1 + 1))) := fun v1 w1 hown1 => Lib.hid (by
          rw [vl_congr .u8 (g := hdB m n q) (fun i hi => by
            rcases Nat.lt_or_ge i (j + 1) with h | h
            · exact jn_lo _ _ h
            · obtain rfl : i = j + 1 := by omega
              have := jn_hi (hdB m n q) (fun _ => d) (j + 1) 0
              rw [Nat.add_zero] at this
              rw [this, HDJ.out])] at hown1
          exact hown1)
        have HH2 := Lib.hid hO2
        clear hO2 hd
        rcases h8 with rfl | rfl | rfl | rfl | rfl | rfl | rfl | rfl
        all_goals
          first
            | (have u2 : IntKind.u8.wrap (n : Int) = (d : Int) := by have := U1.out 1 (by decide); rw [show ((1 : Nat) : Int) = 1 from rfl, Int.ediv_one] at this; exact this)
            | (have u2 : IntKind.u8.wrap ((n : Int) / 256) = (d : Int) := U1.out 256 (by decide))
            | (have u2 : IntKind.u8.wrap ((n : Int) / 65536) = (d : Int) := U1.out 65536 (by decide))
            | (have u2 : IntKind.u8.wrap ((n : Int) / 16777216) = (d : Int) := U1.out 16777216 (by decide))
            | (have u2 : IntKind.u8.wrap ((n : Int) / 4294967296) = (d : Int) := U1.out 4294967296 (by decide))
            | (have u2 : IntKind.u8.wrap ((n : Int) / 1099511627776) = (d : Int) := U1.out 1099511627776 (by decide))
            | (have u2 : IntKind.u8.wrap ((n : Int) / 281474976710656) = (d : Int) := U1.out 281474976710656 (by decide))
            | (have u2 : IntKind.u8.wrap ((n : Int) / 72057594037927936) = (d : Int) := U1.out 72057594037927936 (by decide))
          clear U1
          go_wp2_with (at_builtin; refine wpList_app rfl (.tmp 31) (.tmp 37) _ rfl w.heap.size 5 i0 _ 1 Tryz.underlying28 hi hz0 hz1 hz2 rfl .u8 _ (j + 1) (hdB m n q) rfl (hO.out.1.alloc _) _ 1 1 (fun _ => d) rfl (rd_one _ .u8 d _) (by first | (simp [maxLen]; done) | (simp [maxLen]; omega)) (by omega) (by rw [hsz]; exact Nat.le_succ_of_le hO.out.2.size) ?_; intro v1 w1 hown1 hb1)
          have HO2 := HH2.out _ _ hown1
          have HB2 := Lib.hid ((hO.out.2.alloc hO.out.2.size _).trans hb1)
          obtain ⟨A1, c1, rfl, _, _, _⟩ := Rd.of_own HO2.out
          clear hown1 hb1
          go_wp2_with fail
          go_roundw
          case rel => exact ⟨j + 1, _, by omega, rfl, congrArg (Value.int .i64) (by omega), ⟨_, _, rfl⟩, Lib.hid ⟨HO2.out, HB2.out⟩⟩
          case measure => simp [intOf]
      · obtain rfl : j = q := by omega
        have hneg : ((j : Int) - 1 - (j : Int)) = -1 := by omega
        rw [hneg]
        obtain ⟨A1, c1, e1, g1, g2, g3⟩ := Rd.of_own hO.out.1
        injection e1 with ea _ ec
        subst ea ec
        have HG := Lib.hid (And.intro g1 (And.intro g2 g3))
        have hBB := Lib.hid hO.out.2
        clear g1 g2 g3 hneg hO
        go_wp2_with fail
        exact bodyPost_ret (by simp [results, Tryz.results99, go_sem]) rfl ⟨.inl ⟨HF.out, _, _, rfl, HG.out.2.2, HG.out.1, HG.out.2.1⟩, hBB.out⟩
set_option maxRecDepth 100000 in
theorem hdput_any (M : Int) (n : Nat) (w : World) (hn : n < 18446744073709551616) (hM1 : -9223372036854775808 ≤ M) (hM2 : M ≤ 9223372036854775807) :
    Calls Tryz.prog 54 #[.int .i64 M, .int .u64 (n : Int)] w (HdAns M n (hdS n) w) := by
  have HN := Lib.hid (sleast_any n hn w)
  have HC := Lib.hid (swrite_any M n (szN n) (hdS n) hM1 hM2 hn (.inl ⟨(szN_len n).2, by rw [(szN_len n).1]⟩) w)
  obtain ⟨s, hs⟩ : ∃ s, szN n = s := ⟨_, rfl⟩
  rw [hs] at HN HC
  clear hs hn hM1 hM2
  go_enter Tryz.func54, Tryz.ntmps54
  go_wp2_with fail
  refine HN.out.mono ?_
  rintro e w' ⟨rfl, rfl⟩
  go_wp2_with fail
  refine HC.out.mono ?_
  rintro e w' ⟨⟨h1, A, c, rfl, h2⟩ | ⟨h1, rfl⟩, hb⟩
  · have HH := Lib.hid (And.intro h1 (And.intro h2 hb))
    clear h1 h2 hb
    go_wp2_with fail
    exact bodyPost_ret (by simp [results, Tryz.results54, go_sem]) rfl ⟨.inl ⟨HH.out.1, A, c, rfl, HH.out.2.1⟩, HH.out.2.2⟩
  · have HH := Lib.hid (And.intro h1 hb)
    clear h1 hb
    go_wp2_with fail
    exact bodyPost_ret (by simp [results, Tryz.results54, go_sem]) rfl ⟨.inr ⟨HH.out.1, rfl⟩, HH.out.2⟩
end Go.Proofs.YtpcladdipgchbaaGreatDoor.nn
namespace Go.Proofs.YtpcladdipgchbaaGreatDoor.nn
open Go.RowKit

theorem szI_cases {x : Nat} (hx : x ≤ 31) : (x ≤ 23 ∧ szI x = 0) ∨ (x = 31 ∧ szI x = 0) ∨ (x = 24 ∧ szI x = 1) ∨ (x = 25 ∧ szI x = 2) ∨ (x = 26 ∧ szI x = 3) ∨ (x = 27 ∧ szI x = 4) ∨ (28 ≤ x ∧ x ≤ 30 ∧ szI x = 5) := by
  unfold szI
  by_cases h1 : x ≤ 23
  · exact .inl ⟨h1, if_pos (.inl h1)⟩
  · by_cases h2 : x = 31
    · exact .inr (.inl ⟨h2, if_pos (.inr h2)⟩)
    · rw [if_neg (by omega)]
      by_cases h3 : x < 28
      · rw [if_pos h3]; omega
      · rw [if_neg h3]; omega
set_option maxRecDepth 100000 in
set_option maxHeartbeats 2000000 in
theorem snumber_any (x : Nat) (hx : x ≤ 31) (A : Option Addr) (k c : Nat) (f : Nat → Nat) (w : World) (hA : Rd w .u8 A k f) (hf : ∀ i, i < k → f i < 256) (hk : k ≤ 8) :
    Calls Tryz.prog 98 #[.int .i64 (x : Int), .slice A k c] w fun e w' => e = .returned (.int .u64 ((if x = 31 then 0 else if k = 0 then x else be f k : Nat) : Int)) ∧ w = w' := by
  by_cases h1 : x = 31
  · subst h1
    rw [if_pos rfl]
    clear hA hf
    go_enter Tryz.func98, Tryz.ntmps98
    go_wp2_with fail
    go_ret
    exact ⟨rfl, rfl⟩
  · have k31 : ((x : Int) == 31) = false := neI (by omega)
    rw [if_neg h1]
    by_cases h2 : k = 0
    · subst h2
      rw [if_pos rfl]
      clear h1 hA hf
      go_enter Tryz.func98, Tryz.ntmps98
      go_wp2_with fail
      go_ret
      exact ⟨rfl, rfl⟩
    · rw [if_neg h2]
      have k0 : ((k : Int) == 0) = false := neI (by omega)
      obtain ⟨bb, off, rfl, hbl, hcell⟩ := hA (by omega)
      have HC := Lib.hid hcell
      have HF := Lib.hid hf
      clear hcell hf h1 h2
      go_enter Tryz.func98, Tryz.ntmps98
      go_wp2_with fail
      go_loop [5, 19] (fun s5 s19 => ∃ i : Nat, i ≤ k ∧ s5 = .int .u64 ((be f i : Nat) : Int) ∧ s19 = .int .i64 (i : Int)) (fun _ s19 => k - (intOf s19).toNat)
      case atStart => exact ⟨0, Nat.zero_le _, rfl, rfl⟩
      case round =>
        obtain ⟨i, hi, rfl, rfl⟩ := hrel
        by_cases hlt : i < k
        · have q1 := HC.out i hlt
          have hb := HF.out i hlt
          have hv : be f (i + 1) < 18446744073709551616 := be_64 (fun j hj => HF.out _ (by omega)) (by omega)
          rw [be] at hv
          obtain ⟨o, ho⟩ : ∃ o, f i = o := ⟨_, rfl⟩
          obtain ⟨v, hvv⟩ : ∃ v, be f i = v := ⟨_, rfl⟩
          have hv2 : be f (i + 1) = v * 256 + o := by rw [be, hvv, ho]
          rw [hvv, ho] at hv
          rw [ho] at q1 hb
          rw [hvv]
          have hor := Lib.hid (show bits BinOp.or IntKind.u64 (IntKind.u64.wrap ((v : Int) * 256)) (o : Int) = ((v * 256 + o : Nat) : Int) by rw [IntKind.wrap_u64, show (v : Int) * 256 % 18446744073709551616 = (v : Int) * 256 by omega, hd_up hv hb])
          have HV2 := Lib.hid hv2
          clear hv2 hvv ho hv
          go_wp2_with fail
          go_round
          case rel => exact ⟨i + 1, hlt, by rw [HV2.out]; exact congrArg (Value.int .u64) hor.out, by go_num⟩
          case measure => simp [intOf]; omega
        · obtain rfl : i = k := by omega
          go_wp2_with fail
          exact bodyPost_ret (by simp [results, Tryz.results98, go_sem]) rfl ⟨rfl, by first | rfl | trivial⟩
/-- where a head errs, and how; 0, 0: it doesn't -/
def ckR (f : Nat → Nat) (m : Nat) : Nat × Nat := if (gtR f m).2.2.2.2 = 0 then (0, 0) else ((gtR f m).2.2.2.1, (gtR f m).2.2.2.2)
def ckV (r : Nat × Nat) : Value := .tuple #[.int .i64 (r.1 : Int), .int .i64 (r.2 : Int)]
set_option maxRecDepth 100000 in
set_option maxHeartbeats 4000000 in
theorem scheck_any (A : Option Addr) (m c : Nat) (f : Nat → Nat) (w : World) (hA : Rd w .u8 A m f) (hf : ∀ i, i < m → f i < 256) (hm : m ≤ 4611686018427387904) :
    Calls Tryz.prog 94 #[.slice A m c] w fun e w' => e = .returned (ckV (ckR f m)) ∧ w = w' := by
  by_cases h0 : m = 0
  · subst h0
    have HE := Lib.hid (show ckR f 0 = (0, 3) from rfl)
    clear hA hf
    go_enter Tryz.func94, Tryz.ntmps94
    go_wp2_with fail
    exact bodyPost_ret (by simp [results, Tryz.results94, go_sem]; rfl) rfl ⟨by rw [HE.out]; rfl, by first | rfl | trivial⟩
  · obtain ⟨bb, off, rfl, hbl, hcell⟩ := hA (by omega)
    have HC := Lib.hid hcell
    have q0 := hcell 0 (by omega)
    have hf0 := hf 0 (by omega)
    have hf1 := fun h => hf 1 h
    obtain ⟨x0, hx0⟩ : ∃ x, f 0 = x := ⟨_, rfl⟩
    have hm0 : ((m : Int) == 0) = false := neI (by omega)
    have gR : gtR f m = if (28 ≤ x0 % 32 ∧ x0 % 32 ≤ 30) ∨ (x0 % 32 = 31 ∧ (x0 / 32 < 2 ∨ x0 / 32 = 6)) then (0, 0, 0, 0, 4)
      else if x0 % 32 < 24 then (x0 / 32, x0 % 32, x0 % 32, 1, 0)
      else if x0 % 32 = 31 then (x0 / 32, 31, 0, 1, 0)
      else if x0 / 32 = 7 ∧ x0 % 32 = 24 ∧ 1 < m ∧ f 1 < 32 then (0, 0, 0, 1, 4)
      else if m < 2 ^ (x0 % 32 - 24) + 1 then (0, 0, 0, m, 3)
      else (x0 / 32, x0 % 32, be (fun i => f (1 + i)) (2 ^ (x0 % 32 - 24)), 2 ^ (x0 % 32 - 24) + 1, 0) := by
      unfold gtR
      rw [if_neg h0, hx0]
    rw [hx0] at q0 hf0
    have HS := Lib.hid (fun W => ssplit_any x0 hf0 W)
    obtain ⟨M, hM⟩ : ∃ M, x0 / 32 = M := ⟨_, rfl⟩
    obtain ⟨x, hx⟩ : ∃ M, x0 % 32 = M := ⟨_, rfl⟩
    have hM7 : M ≤ 7 := by omega
    have hx31 : x ≤ 31 := by omega
    rw [hM, hx] at gR HS
    have HB := Lib.hid (fun W => sbehind_any x hx31 W)
    have HO := Lib.hid (fun W => scanopen_any M hM7 W)
    have hbs := szI_cases hx31
    obtain ⟨b, hb⟩ : ∃ b, szI x = b := ⟨_, rfl⟩
    rw [hb] at HB hbs
    have hbs : (x ≤ 23 ∧ b = 0) ∨ (x = 31 ∧ b = 0) ∨ ((x = 24 ∧ b = 1) ∨ (x = 25 ∧ b = 2) ∨ (x = 26 ∧ b = 3) ∨ (x = 27 ∧ b = 4)) ∨ (28 ≤ x ∧ x ≤ 30 ∧ b = 5) := by omega
    have GR := Lib.hid gR
    have GC : Hid (ckR f m = if (gtR f m).2.2.2.2 = 0 then (0, 0) else ((gtR f m).2.2.2.1, (gtR f m).2.2.2.2)) := Lib.hid rfl
    obtain ⟨R, hR⟩ : ∃ R, gtR f m = R := ⟨_, rfl⟩
    rw [hR] at GR GC
    obtain ⟨Z, hZ⟩ : ∃ Z, ckR f m = Z := ⟨_, rfl⟩
    rw [hZ] at GC ⊢
    clear gR hR hx hM hx0 hcell hZ hb
    rw [Nat.add_zero] at q0
    have ends : ∀ p e : Nat, (R.2.2.2.2 = e ∧ (e = 0 → p = 0) ∧ (e ≠ 0 → R.2.2.2.1 = p)) → Z = (p, e) := fun p e h => by
      rw [GC.out, h.1]
      by_cases he : e = 0
      · rw [if_pos he, he, h.2.1 he]
      · rw [if_neg he, h.2.2 he]
    have EN := Lib.hid ends
    clear ends GC
    have h1m : ¬ ((m : Nat) : Int) ≤ 0 := by omega
    rcases hbs with ⟨h1, rfl⟩ | ⟨rfl, rfl⟩ | hbs | ⟨h1, h2, rfl⟩
    · -- a number of its own
      have k31 : ((x : Int) == 31) = false := neI (by omega)
      have HE := Lib.hid (EN.out 0 0 (by rw [GR.out, if_neg (by omega), if_pos (by omega)]; exact ⟨rfl, fun _ => rfl, fun h => absurd rfl h⟩))
      have HL := Lib.hid (fun W => slength_any 0 (by decide) W)
      rw [show szL 0 = 0 from rfl] at HL
      have hm7 : M = 7 ∨ ((M : Int) == 7) = false := by
        by_cases h : M = 7
        · exact .inl h
        · exact .inr (neI (by omega))
      clear GR hf hf1 hf0 EN
      go_enter Tryz.func94, Tryz.ntmps94
      rcases hm7 with rfl | k7
      all_goals
        go_wp2_with fail
        refine (HS.out _).mono ?_
        rintro e w' ⟨rfl, rfl⟩
        go_wp2_with fail
        refine (HB.out _).mono ?_
        rintro e w' ⟨rfl, rfl⟩
        go_wp2_with fail
        refine (HL.out _).mono ?_
        rintro e w' ⟨rfl, rfl⟩
        go_wp2_with fail
        exact bodyPost_ret (by simp [results, Tryz.results94, go_sem]; rfl) rfl ⟨by rw [HE.out]; rfl, by first | rfl | trivial⟩
    · -- open
      have HL := Lib.hid (fun W => slength_any 0 (by decide) W)
      rw [show szL 0 = 0 from rfl] at HL
      by_cases hO : 2 ≤ M ∧ M ≠ 6
      · rw [decide_eq_true hO] at HO
        have HE := Lib.hid (EN.out 0 0 (by rw [GR.out, if_neg (by omega), if_neg (by omega), if_pos rfl]; exact ⟨rfl, fun _ => rfl, fun h => absurd rfl h⟩))
        have hm7 : M = 7 ∨ ((M : Int) == 7) = false := by
          by_cases h : M = 7
          · exact .inl h
          · exact .inr (neI (by omega))
        clear GR hf hf1 hf0 EN hO
        go_enter Tryz.func94, Tryz.ntmps94
        rcases hm7 with rfl | k7
        all_goals
          go_wp2_with fail
          refine (HS.out _).mono ?_
          rintro e w' ⟨rfl, rfl⟩
          go_wp2_with fail
          refine (HB.out _).mono ?_
          rintro e w' ⟨rfl, rfl⟩
          go_wp2_with fail
          refine (HO.out _).mono ?_
          rintro e w' ⟨rfl, rfl⟩
          go_wp2_with fail
          refine (HL.out _).mono ?_
          rintro e w' ⟨rfl, rfl⟩
          go_wp2_with fail
          exact bodyPost_ret (by simp [results, Tryz.results94, go_sem]; rfl) rfl ⟨by rw [HE.out]; rfl, by first | rfl | trivial⟩
      · rw [decide_eq_false hO] at HO
        have HE := Lib.hid (EN.out 0 4 (by rw [GR.out, if_pos (by omega)]; exact ⟨rfl, fun h => (by cases h), fun _ => rfl⟩))
        clear GR hf hf1 hf0 EN hO
        go_enter Tryz.func94, Tryz.ntmps94
        go_wp2_with fail
        refine (HS.out _).mono ?_
        rintro e w' ⟨rfl, rfl⟩
        go_wp2_with fail
        refine (HB.out _).mono ?_
        rintro e w' ⟨rfl, rfl⟩
        go_wp2_with fail
        refine (HO.out _).mono ?_
        rintro e w' ⟨rfl, rfl⟩
        go_wp2_with fail
        exact bodyPost_ret (by simp [results, Tryz.results94, go_sem]; rfl) rfl ⟨by rw [HE.out]; rfl, by first | rfl | trivial⟩
    · -- bytes behind it
      have hx24 : 24 ≤ x ∧ x ≤ 27 ∧ 1 ≤ b ∧ b ≤ 4 ∧ (b = 1 ↔ x = 24) ∧ 2 ^ (x - 24) = szL b := by
        rcases hbs with ⟨rfl, rfl⟩ | ⟨rfl, rfl⟩ | ⟨rfl, rfl⟩ | ⟨rfl, rfl⟩ <;> decide
      obtain ⟨x24, x27, b1, b4, bx, hK⟩ := hx24
      have k31 : ((x : Int) == 31) = false := neI (by omega)
      have k5 : ((b : Int) == 5) = false := neI (by omega)
      have HL := Lib.hid (fun W => slength_any b (by omega) W)
      have G2 : Hid (R = if M = 7 ∧ x = 24 ∧ 1 < m ∧ f 1 < 32 then (0, 0, 0, 1, 4) else if m < szL b + 1 then (0, 0, 0, m, 3) else (M, x, be (fun i => f (1 + i)) (szL b), szL b + 1, 0)) := Lib.hid (by rw [GR.out, if_neg (by omega), if_neg (by omega), if_neg (by omega), hK])
      obtain ⟨K, hKK⟩ : ∃ K, szL b = K := ⟨_, rfl⟩
      rw [hKK] at G2 HL
      have hK8 : K ≤ 8 := by
        rw [← hKK, ← hK]
        rcases hbs with ⟨rfl, _⟩ | ⟨rfl, _⟩ | ⟨rfl, _⟩ | ⟨rfl, _⟩ <;> decide
      clear GR hKK hK hbs
      have rest : ¬ (M = 7 ∧ x = 24 ∧ 1 < m ∧ f 1 < 32) → (((m : Int) ≤ (K : Int) ∧ Z = (m, 3)) ∨ (¬ (m : Int) ≤ (K : Int) ∧ Z = (0, 0))) := fun h => by
        by_cases hK1 : m < K + 1
        · exact .inl ⟨by omega, EN.out m 3 (by rw [G2.out, if_neg h, if_pos hK1]; exact ⟨rfl, fun h => (by cases h), fun _ => rfl⟩)⟩
        · exact .inr ⟨by omega, EN.out 0 0 (by rw [G2.out, if_neg h, if_neg hK1]; exact ⟨rfl, fun _ => rfl, fun h => absurd rfl h⟩)⟩
      by_cases d1 : M = 7
      · subst d1
        by_cases d2 : b = 1
        · subst d2
          obtain rfl : x = 24 := bx.1 rfl
          by_cases d3 : (1 : Int) < (m : Int)
          · have q1 := HC.out 1 (by omega)
            have hf1' := hf1 (by omega)
            obtain ⟨x1, hx1⟩ : ∃ x, f 1 = x := ⟨_, rfl⟩
            rw [hx1] at q1 hf1' rest G2
            by_cases d4 : (x1 : Int) < 32
            · have HE := Lib.hid (EN.out 1 4 (by rw [G2.out, if_pos ⟨rfl, rfl, by omega, by omega⟩]; exact ⟨rfl, fun h => (by cases h), fun _ => rfl⟩))
              clear rest G2 hx1 hf hf1 EN bx
              go_enter Tryz.func94, Tryz.ntmps94
              go_wp2_with fail
              refine (HS.out _).mono ?_
              rintro e w' ⟨rfl, rfl⟩
              go_wp2_with fail
              refine (HB.out _).mono ?_
              rintro e w' ⟨rfl, rfl⟩
              go_wp2_with fail
              exact bodyPost_ret (by simp [results, Tryz.results94, go_sem]; rfl) rfl ⟨by rw [HE.out]; rfl, by first | rfl | trivial⟩
            · have hr := rest (by omega)
              clear rest G2 hx1 hf hf1 EN bx
              go_enter Tryz.func94, Tryz.ntmps94
              rcases hr with ⟨hr, hZ⟩ | ⟨hr, hZ⟩
              all_goals
                have HE := Lib.hid hZ
                clear hZ
                go_wp2_with fail
                refine (HS.out _).mono ?_
                rintro e w' ⟨rfl, rfl⟩
                go_wp2_with fail
                refine (HB.out _).mono ?_
                rintro e w' ⟨rfl, rfl⟩
                go_wp2_with fail
                refine (HL.out _).mono ?_
                rintro e w' ⟨rfl, rfl⟩
                go_wp2_with fail
                exact bodyPost_ret (by simp [results, Tryz.results94, go_sem]; rfl) rfl ⟨by rw [HE.out]; rfl, by first | rfl | trivial⟩
          · have hr := rest (by omega)
            clear rest G2 hf hf1 EN bx
            go_enter Tryz.func94, Tryz.ntmps94
            rcases hr with ⟨hr, hZ⟩ | ⟨hr, hZ⟩
            all_goals
              have HE := Lib.hid hZ
              clear hZ
              go_wp2_with fail
              refine (HS.out _).mono ?_
              rintro e w' ⟨rfl, rfl⟩
              go_wp2_with fail
              refine (HB.out _).mono ?_
              rintro e w' ⟨rfl, rfl⟩
              go_wp2_with fail
              refine (HL.out _).mono ?_
              rintro e w' ⟨rfl, rfl⟩
              go_wp2_with fail
              exact bodyPost_ret (by simp [results, Tryz.results94, go_sem]; rfl) rfl ⟨by rw [HE.out]; rfl, by first | rfl | trivial⟩
        · have kb : ((b : Int) == 1) = false := neI (by omega)
          have hr := rest (by omega)
          clear rest G2 hf hf1 EN bx d2
          go_enter Tryz.func94, Tryz.ntmps94
          rcases hr with ⟨hr, hZ⟩ | ⟨hr, hZ⟩
          all_goals
            have HE := Lib.hid hZ
            clear hZ
            go_wp2_with fail
            refine (HS.out _).mono ?_
            rintro e w' ⟨rfl, rfl⟩
            go_wp2_with fail
            refine (HB.out _).mono ?_
            rintro e w' ⟨rfl, rfl⟩
            go_wp2_with fail
            refine (HL.out _).mono ?_
            rintro e w' ⟨rfl, rfl⟩
            go_wp2_with fail
            exact bodyPost_ret (by simp [results, Tryz.results94, go_sem]; rfl) rfl ⟨by rw [HE.out]; rfl, by first | rfl | trivial⟩
      · have k7 : ((M : Int) == 7) = false := neI (by omega)
        have hr := rest (by omega)
        clear rest G2 hf hf1 EN bx d1
        go_enter Tryz.func94, Tryz.ntmps94
        rcases hr with ⟨hr, hZ⟩ | ⟨hr, hZ⟩
        all_goals
          have HE := Lib.hid hZ
          clear hZ
          go_wp2_with fail
          refine (HS.out _).mono ?_
          rintro e w' ⟨rfl, rfl⟩
          go_wp2_with fail
          refine (HB.out _).mono ?_
          rintro e w' ⟨rfl, rfl⟩
          go_wp2_with fail
          refine (HL.out _).mono ?_
          rintro e w' ⟨rfl, rfl⟩
          go_wp2_with fail
          exact bodyPost_ret (by simp [results, Tryz.results94, go_sem]; rfl) rfl ⟨by rw [HE.out]; rfl, by first | rfl | trivial⟩
    · -- none
      have HE := Lib.hid (EN.out 0 4 (by rw [GR.out, if_pos (by omega)]; exact ⟨rfl, fun h => (by cases h), fun _ => rfl⟩))
      clear GR hf hf1 hf0 EN
      go_enter Tryz.func94, Tryz.ntmps94
      go_wp2_with fail
      refine (HS.out _).mono ?_
      rintro e w' ⟨rfl, rfl⟩
      go_wp2_with fail
      refine (HB.out _).mono ?_
      rintro e w' ⟨rfl, rfl⟩
      go_wp2_with fail
      exact bodyPost_ret (by simp [results, Tryz.results94, go_sem]; rfl) rfl ⟨by rw [HE.out]; rfl, by first | rfl | trivial⟩
end Go.Proofs.YtpcladdipgchbaaGreatDoor.nn
namespace Go.Proofs.YtpcladdipgchbaaGreatDoor.nn
open Go.RowKit

theorem gtV_eq {R : Nat × Nat × Nat × Nat × Nat} {a b c d e : Nat} (h : R = (a, b, c, d, e)) : Ending.returned (.tuple #[.int .i64 (a : Int), .int .i64 (b : Int), .int .u64 (c : Int), .int .i64 (d : Int), .int .i64 (e : Int)]) = .returned (gtV R) := by
  subst h
  rfl
set_option maxRecDepth 100000 in
set_option maxHeartbeats 2000000 in
theorem get_no (A : Option Addr) (m c : Nat) (f : Nat → Nat) (w : World) (hA : Rd w .u8 A m f) (hf : ∀ i, i < m → f i < 256) (hm : m ≤ 4611686018427387904)
    (p e : Nat) (he : e ≠ 0) (_ : e < 5) (_ : p ≤ m) (hR : gtR f m = (0, 0, 0, p, e)) :
    Calls Tryz.prog 53 #[.slice A m c] w fun e w' => e = .returned (gtV (gtR f m)) ∧ Below w.heap.size w w' := by
  have HK := Lib.hid (scheck_any A m c f w hA hf hm)
  have HB0 := Lib.hid (Below.refl w.heap.size w)
  have HE := Lib.hid (gtV_eq hR)
  have hck : ckR f m = (p, e) := by unfold ckR; rw [hR]; exact if_neg he
  rw [hck] at HK
  have HKK : Hid (Calls Tryz.prog 94 #[.slice A m c] w fun r w' => r = .returned (.tuple #[.int .i64 (p : Int), .int .i64 (e : Int)]) ∧ w = w') := HK
  have ke : ((e : Int) == 0) = false := neI (by omega)
  obtain ⟨R, hRR⟩ : ∃ R, gtR f m = R := ⟨_, rfl⟩
  rw [hRR] at HE ⊢
  obtain ⟨E, hE⟩ : ∃ E, Ending.returned (gtV R) = E := ⟨_, rfl⟩
  rw [hE] at HE ⊢
  clear hRR hE hck hR hf hA HK he
  go_enter Tryz.func53, Tryz.ntmps53
  go_wp2_with fail
  refine HKK.out.mono ?_
  rintro r w' ⟨rfl, rfl⟩
  go_wp2_with fail
  exact bodyPost_ret (by simp [results, Tryz.results53, go_sem]) rfl ⟨HE.out, HB0.out⟩
set_option maxRecDepth 100000 in
set_option maxHeartbeats 4000000 in
theorem get_yes (bb off : Nat) (m c : Nat) (w : World) (M x x0 b n K : Nat) (E : Ending) (A' : Option Addr) (hA' : (if c = 1 then some (⟨bb, off, none⟩ : Addr) else some ⟨bb, off + 1, none⟩) = A')
    (HKK : Hid (Calls Tryz.prog 94 #[.slice (some ⟨bb, off, none⟩) m c] w fun e w' => e = .returned (.tuple #[.int .i64 0, .int .i64 0]) ∧ w = w'))
    (q0 : w.cell? ⟨bb, off, none⟩ = some (.int .u8 (x0 : Int))) (h0 : 0 < m) (hmc : m ≤ c) (_ : x0 < 256)
    (HS : Hid (∀ W, Calls Tryz.prog 95 #[.int .u8 (x0 : Int)] W fun e w' => e = .returned (.tuple #[.int .i64 (M : Int), .int .i64 (x : Int)]) ∧ W = w'))
    (HB : Hid (∀ W, Calls Tryz.prog 96 #[.int .i64 (x : Int)] W fun e w' => e = .returned (.int .i64 (b : Int)) ∧ W = w'))
    (HL : Hid (∀ W, Calls Tryz.prog 97 #[.int .i64 (b : Int)] W fun e w' => e = .returned (.int .i64 (K : Int)) ∧ W = w'))
    (HN : Hid (∀ c' : Nat, Calls Tryz.prog 98 #[.int .i64 (x : Int), .slice A' K c'] w fun e w' => e = .returned (.int .u64 (n : Int)) ∧ w = w'))
    (hK8 : K ≤ 8) (hKm : K + 1 ≤ m)
    (HE : Hid (Ending.returned (.tuple #[.int .i64 (M : Int), .int .i64 (x : Int), .int .u64 (n : Int), .int .i64 ((K + 1 : Nat) : Int), .int .i64 0]) = E)) :
    Calls Tryz.prog 53 #[.slice (some ⟨bb, off, none⟩) m c] w fun e w' => e = E ∧ Below w.heap.size w w' := by
  have HB0 := Lib.hid (Below.refl w.heap.size w)
  obtain ⟨L, hL⟩ : ∃ L, K + 1 = L := ⟨_, rfl⟩
  have eK : (1 : Int) + (K : Int) = (L : Int) := by omega
  have eK2 : L - 1 = K := by omega
  rw [hL] at HE
  have i1 : (L : Int) ≤ (c : Int) := by omega
  have i2 : (1 : Int) ≤ (L : Int) := by omega
  have i3 : L ≤ c := by omega
  have i4 : 1 ≤ L := by omega
  have hs : ∀ W, (sizeOf (Tryz.prog.elem 28)).run Tryz.prog W = .ok 1 W := fun W => by kernel_rfl
  have hsl : ∀ W, (Instr.slice 28 (.slice (some ⟨bb, off, none⟩) m c) (some (.int .i64 1)) (some (.int .i64 (L : Int))) none).run Tryz.prog W = .ok (.slice A' K (c - 1)) W := fun W => by
    rw [run_slice_lh (w := W) (ht := by kernel_rfl) (h0 := by decide) (h1 := i2) (h2 := i1), hs]
    show Result.ok (sliced _ (1 : Int).toNat (L : Int).toNat c 1) W = _
    rw [show (1 : Int).toNat = 1 from rfl, Int.toNat_natCast, ← hA', ← eK2]
    unfold sliced
    by_cases h : c = 1
    · rw [if_pos h, if_pos h]
    · rw [if_neg h, if_neg h]; rfl
  clear hs hA' i3 i4 eK2
  go_enter Tryz.func53, Tryz.ntmps53
  go_wp2_with fail
  refine HKK.out.mono ?_
  rintro e w' ⟨rfl, rfl⟩
  go_wp2_with fail
  refine (HS.out _).mono ?_
  rintro e w' ⟨rfl, rfl⟩
  go_wp2_with fail
  refine (HB.out _).mono ?_
  rintro e w' ⟨rfl, rfl⟩
  go_wp2_with fail
  refine (HL.out _).mono ?_
  rintro e w' ⟨rfl, rfl⟩
  go_wp2_with fail
  refine (HN.out _).mono ?_
  rintro e w' ⟨rfl, rfl⟩
  go_wp2_with fail
  exact bodyPost_ret (by simp [results, Tryz.results53, go_sem]) rfl ⟨HE.out, HB0.out⟩
set_option maxRecDepth 100000 in
theorem hdget_any (A : Option Addr) (m c : Nat) (f : Nat → Nat) (w : World) (hA : Rd w .u8 A m f) (hf : ∀ i, i < m → f i < 256) (hm : m ≤ 4611686018427387904) (hmc : m ≤ c) :
    Calls Tryz.prog 53 #[.slice A m c] w (GtAns f m w) := by
  have HK := Lib.hid (scheck_any A m c f w hA hf hm)
  obtain ⟨M, x, K, hM, hx, hK, hcs⟩ := gt_cases f m
  unfold GtAns
  have hx31 : x ≤ 31 := by omega
  have no := get_no A m c f w hA hf hm
  have yes : ∀ b n K : Nat, 0 < m → szI x = b → b ≤ 4 → szL b = K → K ≤ 8 → K + 1 ≤ m → gtR f m = (M, x, n, K + 1, 0) → (if x = 31 then 0 else if K = 0 then x else be (fun i => f (1 + i)) K) = n → Calls Tryz.prog 53 #[.slice A m c] w fun e w' => e = .returned (gtV (gtR f m)) ∧ Below w.heap.size w w' := fun b n K h0 hb b4 hK' hK8 hKm hR hn => by
    obtain ⟨bb, off, rfl, hbl, hcell⟩ := hA h0
    have q0 := hcell 0 h0
    have hf0 := hf 0 h0
    rw [Nat.add_zero] at q0
    have hck : ckR f m = (0, 0) := by unfold ckR; rw [hR]; rfl
    rw [hck] at HK
    refine get_yes bb off m c w M x (f 0) b n K _ _ rfl HK q0 h0 hmc hf0 (Lib.hid fun W => by rw [← hM, ← hx]; exact ssplit_any (f 0) hf0 W) (Lib.hid fun W => by rw [← hb]; exact sbehind_any x hx31 W) (Lib.hid fun W => by rw [← hK']; exact slength_any b (by omega) W) (Lib.hid fun c' => ?_) hK8 hKm (Lib.hid (gtV_eq hR))
    rw [← hn]
    refine snumber_any x hx31 _ K c' (fun i => f (1 + i)) w (fun hk => ?_) (fun i hi => hf _ (by omega)) hK8
    rw [if_neg (by omega)]
    exact ⟨bb, off + 1, rfl, hbl, fun i hi => by rw [Nat.add_assoc off 1 i]; exact hcell (1 + i) (by omega)⟩
  rcases hcs with h1 | h1 | h1 | h1 | h1 | h1 | h1
  · exact no 0 3 (by decide) (by decide) (Nat.zero_le _) h1.2
  · exact no 0 4 (by decide) (by decide) (Nat.zero_le _) h1.2.2
  · exact yes 0 x 0 h1.1 (by have := szI_cases hx31; omega) (by decide) rfl (by decide) h1.1 h1.2.2 (by rw [if_neg (by omega), if_pos rfl])
  · exact yes 0 0 0 h1.1 (by have := szI_cases hx31; omega) (by decide) rfl (by decide) h1.1 (by rw [h1.2.1]; exact h1.2.2) (by rw [if_pos h1.2.1])
  · exact no 1 4 (by decide) (by decide) (by omega) h1.2.2.2.2
  · exact no m 3 (by decide) (by decide) (Nat.le_refl _) h1.2.2.2
  · have h2 := two_k h1.2.1
    rw [hK] at h2
    have h3 := szI_cases hx31
    exact yes (szI x) _ K (by omega) rfl (by omega) (by
      have h4 : (szI x = 1 ∧ K = 1) ∨ (szI x = 2 ∧ K = 2) ∨ (szI x = 3 ∧ K = 4) ∨ (szI x = 4 ∧ K = 8) := by omega
      rcases h4 with ⟨e, rfl⟩ | ⟨e, rfl⟩ | ⟨e, rfl⟩ | ⟨e, rfl⟩ <;> rw [e] <;> rfl) (by omega) h1.1 h1.2.2.2 (by rw [if_neg (by omega), if_neg (by omega)])
end Go.Proofs.YtpcladdipgchbaaGreatDoor.nn
