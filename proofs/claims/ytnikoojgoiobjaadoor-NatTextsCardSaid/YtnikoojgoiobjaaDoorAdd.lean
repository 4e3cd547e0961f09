/- The walks of bounded and Add: the sum of all, or the error for what is too long. -/
import Derived.Test.YtnikoojgoiobjaaDoorPlus
import Derived.Test.YtnikoojgoiobjaaDoorLong
import Derived.Deep.RegionHeld3
namespace Go.Proofs.YtnikoojgoiobjaaDoor.nn
open Go.RowKit

/-- the slice at A of length n reads as the trimmed number R -/
structure Num (w : World) (A : Option Addr) (n c : Nat) (f : Nat → Nat) (R : Nat) : Prop where
  le : n ≤ c
  cap : c ≤ maxLen
  rd : Rd w .u32 A n f
  lt : Lt (2 ^ 32) f n
  trm : Trm f n
  val : sm (2 ^ 32) f n = R

/-- the greatest number that fits, and one -/
def pw (k : Nat) : Nat := (2 ^ 32) ^ k
def big : Nat := pw 4096
theorem pw_mono {a b : Nat} (h : a ≤ b) : pw a ≤ pw b := Nat.pow_le_pow_right (Nat.two_pow_pos 32) h
theorem big_le {n : Nat} (h : 4096 ≤ n) : big ≤ pw n := pw_mono h
theorem le_big {n : Nat} (h : n ≤ 4096) : pw n ≤ big := pw_mono h
theorem trm_long {f : Nat → Nat} {n : Nat} (h : Trm f n) (hl : 4096 < n) : big ≤ sm (2 ^ 32) f n := by
  obtain ⟨j, rfl⟩ : ∃ j, n = j + 1 := ⟨n - 1, by omega⟩
  rcases h with h | h
  · omega
  · have h1 := sm_ge (B := 2 ^ 32) (f := f) (n := j) (by simpa using h)
    exact Nat.le_trans (big_le (by omega)) h1
theorem trm_short {f : Nat → Nat} {n : Nat} (lf : Lt (2 ^ 32) f n) (hl : n ≤ 4096) : sm (2 ^ 32) f n < big := by
  exact Nat.lt_of_lt_of_le (sm_lt lf) (le_big hl)
/-- too long, or not, by the value -/
theorem long_iff {f : Nat → Nat} {n : Nat} (lf : Lt (2 ^ 32) f n) : 4096 < tr f n ↔ big ≤ sm (2 ^ 32) f n := by
  rw [← sm_tr]
  constructor
  · exact trm_long (tr_trm f n)
  · intro h
    rcases Nat.lt_or_ge 4096 (tr f n) with h1 | h1
    · exact h1
    · have := trm_short (lf.mono (tr_le f n)) h1; omega

/-- an answer, and the number of its error: nothing beside an error -/
def Res (w w' : World) (e : Ending) (R er : Nat) : Prop :=
  ∃ A n c f, e = .returned (.tuple #[.slice A n c, .int .i64 (er : Int)]) ∧ Num w' A n c f R ∧ Below w.heap.size w w'
theorem num_nil (w : World) : Num w none 0 0 (fun _ => 0) 0 := ⟨Nat.le_refl _, by simp [maxLen], Rd.none_, fun _ h => absurd h (by omega), .inl rfl, rfl⟩

theorem rds_one (w : World) (A : Option Addr) (n c : Nat) (f : Nat → Nat) (e : TypeId) (hA : Rd w .u32 A n f) (hn : n ≤ c) (hc : c ≤ maxLen) :
    Rds (w.alloc (.cells #[.slice A n c] e)) (some ⟨w.heap.size, 0, none⟩) 1 (fun _ => A) (fun _ => n) (fun _ => c) (fun _ => f) := fun _ =>
  ⟨w.heap.size, 0, rfl, by simp, fun i hi => by
    obtain rfl : i = 0 := by omega
    refine ⟨?_, hn, hc, hA.alloc _⟩
    rw [World.cell?_alloc_at _ _ _ _ rfl]; rfl⟩

theorem long_one (w : World) (A : Option Addr) (n c : Nat) (f : Nat → Nat) (e : TypeId) (hA : Rd w .u32 A n f) (hn : n ≤ c) (hc : c ≤ maxLen) (b : Bool) (hb : decide (4096 < tr f n) = b) :
    Calls Tryd.prog 27 #[.slice (some ⟨w.heap.size, 0, none⟩) 1 1] (w.alloc (.cells #[.slice A n c] e)) fun e' w' => e' = .returned (.bool b) ∧ w.alloc (.cells #[.slice A n c] e) = w' := by
  have h := long_any _ 1 1 _ _ _ _ _ (rds_one w A n c f e hA hn hc) (Nat.le_refl _) (by simp [maxLen])
  have e1 : lg (fun _ => n) (fun _ => f) 1 = b := by simp only [lg, Bool.false_or]; exact hb
  rw [e1] at h
  exact h

/-- two errors alike: long or fits -/
def fitR (N : Nat) : Nat := if N < big then N else 0
def fitE (N : Nat) : Nat := if N < big then 0 else 2
theorem fitR_lt {N : Nat} (h : N < big) : fitR N = N := if_pos h
theorem fitE_lt {N : Nat} (h : N < big) : fitE N = 0 := if_pos h
theorem fitR_ge {N : Nat} (h : ¬ N < big) : fitR N = 0 := if_neg h
theorem fitE_ge {N : Nat} (h : ¬ N < big) : fitE N = 2 := if_neg h

set_option maxHeartbeats 400000 in
theorem bounded_any (A : Option Addr) (n c : Nat) (f : Nat → Nat) (w : World) (hA : Rd w .u32 A n f) (hn : n ≤ c) (hc : c ≤ maxLen) (lf : Lt (2 ^ 32) f n) :
    Calls Tryd.prog 39 #[.slice A n c] w fun e w' => Res w w' e (fitR (sm (2 ^ 32) f n)) (fitE (sm (2 ^ 32) f n)) := by
  have hle := tr_le f n
  have hil := long_iff lf
  unfold maxLen at hc
  by_cases hl : 4096 < tr f n
  · have H := Lib.hid (show ¬ sm (2 ^ 32) f n < big by have := hil.1 hl; omega)
    have hd := Lib.hid (decide_eq_true hl)
    clear hil
    go_enter Tryd.func39, Tryd.ntmps39
    go_wp2_with (go_at_call 27; refine (long_one _ _ _ _ _ _ hA hn (by unfold maxLen; omega) true hd.out).mono ?_; rintro e w' ⟨rfl, rfl⟩)
    go_ret2
    rw [fitR_ge H.out, fitE_ge H.out]
    exact ⟨none, 0, 0, _, rfl, num_nil _, (Below.refl _ _).alloc (Nat.le_refl _) _⟩
  · have H := Lib.hid (show sm (2 ^ 32) f n < big by
      rcases Nat.lt_or_ge (sm (2 ^ 32) f n) big with h | h
      · exact h
      · exact absurd (hil.2 h) hl)
    have hd := Lib.hid (decide_eq_false hl)
    clear hil
    go_enter Tryd.func39, Tryd.ntmps39
    go_wp2_with (first
      | (go_at_call 27; refine (long_one _ _ _ _ _ _ hA hn (by unfold maxLen; omega) false hd.out).mono ?_; rintro e w' ⟨rfl, rfl⟩)
      | (go_at_call 30; refine (trim_any _ _ _ _ _ (hA.alloc _) hn (by unfold maxLen; omega)).mono ?_; rintro e w' ⟨rfl, rfl⟩))
    go_ret2
    rw [fitR_lt H.out, fitE_lt H.out]
    exact ⟨A, tr f n, c, f, rfl, ⟨by omega, by unfold maxLen; omega, (hA.alloc _).mono hle, lf.mono hle, tr_trm _ _, sm_tr _ _ _⟩, (Below.refl _ _).alloc (Nat.le_refl _) _⟩
/-- the sum of the first i parts -/
def tot (L : Nat → Nat) (F : Nat → Nat → Nat) : Nat → Nat
  | 0 => 0
  | i + 1 => tot L F i + sm (2 ^ 32) (F i) (L i)

/-- what Add answers: too long comes first -/
def addR (n : Nat) (f : Nat → Nat) (m : Nat) (L : Nat → Nat) (F : Nat → Nat → Nat) : Nat :=
  if 4096 < tr f n ∨ lg L F m = true then 0 else fitR (sm (2 ^ 32) f n + tot L F m)
def addE (n : Nat) (f : Nat → Nat) (m : Nat) (L : Nat → Nat) (F : Nat → Nat → Nat) : Nat :=
  if 4096 < tr f n ∨ lg L F m = true then 2 else fitE (sm (2 ^ 32) f n + tot L F m)

/-- what holds at the head of Add's loop -/
def AddLoop (old base : Nat) (w0 wr : World) (s : Value) (i n : Nat) (f : Nat → Nat) (L : Nat → Nat) (F : Nat → Nat → Nat) : Prop :=
  ∃ (n' : Nat) (f' : Nat → Nat), wr.ownsRow base 45 1 s n' (vl .u32 f' n') ∧ Below old w0 wr ∧ base ≤ wr.heap.size ∧ Lt (2 ^ 32) f' n' ∧ sm (2 ^ 32) f' n' = sm (2 ^ 32) f n + tot L F i ∧ n' ≤ 4096 + i

theorem AddLoop.below {old base : Nat} {w0 wr : World} {s : Value} {i n : Nat} {f : Nat → Nat} {L : Nat → Nat} {F : Nat → Nat → Nat} (h : AddLoop old base w0 wr s i n f L F) : Below old w0 wr := by
  obtain ⟨_, _, _, h, _⟩ := h
  exact h

set_option maxHeartbeats 1000000 in
theorem add_any (A : Option Addr) (n c : Nat) (f : Nat → Nat) (B : Option Addr) (m d : Nat) (AA : Nat → Option Addr) (L C : Nat → Nat) (F : Nat → Nat → Nat) (w : World)
    (hA : Rd w .u32 A n f) (hn : n ≤ c) (hc : c ≤ maxLen) (lf : Lt (2 ^ 32) f n) (hB : Rds w B m AA L C F) (hm : m ≤ d) (hd : d ≤ maxLen) (lF : ∀ i, i < m → Lt (2 ^ 32) (F i) (L i)) (hreach : m * 24 ≤ 140737488355328) :
    Calls Tryd.prog 15 #[.slice A n c, .slice B m d] w fun e w' => Res w w' e (addR n f m L F) (addE n f m L F) := by
  have hle := tr_le f n
  unfold maxLen at hc hd
  by_cases hl : 4096 < tr f n
  · have hd' := Lib.hid (decide_eq_true hl)
    have H1 : Hid (addR n f m L F = 0) := if_pos (.inl hl)
    have H2 : Hid (addE n f m L F = 2) := if_pos (.inl hl)
    go_enter Tryd.func15, Tryd.ntmps15
    go_wp2_with (go_at_call 27; refine (long_one _ _ _ _ _ _ hA hn (by unfold maxLen; omega) true hd'.out).mono ?_; rintro e w' ⟨rfl, rfl⟩)
    go_ret2
    rw [H1.out, H2.out]
    exact ⟨none, 0, 0, _, rfl, num_nil _, (Below.refl _ _).alloc (Nat.le_refl _) _⟩
  · have hd' := Lib.hid (decide_eq_false hl)
    by_cases hl2 : lg L F m = true
    · have H1 : Hid (addR n f m L F = 0) := if_pos (.inr hl2)
      have H2 : Hid (addE n f m L F = 2) := if_pos (.inr hl2)
      have hB1 := hB.below (w' := w.alloc (.cells #[.slice A n c] 22)) ((Below.refl _ _).alloc (Nat.le_refl _) _)
      have h2 := long_any _ _ d _ _ _ _ _ hB1 hm (by unfold maxLen; omega)
      rw [hl2] at h2
      have h2' := Lib.hid h2
      clear h2 hl2
      go_enter Tryd.func15, Tryd.ntmps15
      go_wp2_with (first
        | (go_at_call_of 27 (Value.slice (some ⟨w.heap.size, 0, none⟩) 1 1); refine (long_one _ _ _ _ _ _ hA hn (by unfold maxLen; omega) false hd'.out).mono ?_; rintro e w' ⟨rfl, rfl⟩)
        | (go_at_call 27; refine h2'.out.mono ?_; rintro e w' ⟨rfl, rfl⟩))
      go_ret2
      rw [H1.out, H2.out]
      exact ⟨none, 0, 0, _, rfl, num_nil _, (Below.refl _ _).alloc (Nat.le_refl _) _⟩
    · have hl2' : lg L F m = false := by cases h : lg L F m <;> simp_all
      have hno : ¬ (4096 < tr f n ∨ lg L F m = true) := by rintro (h | h) <;> contradiction
      have H1 : Hid (addR n f m L F = fitR (sm (2 ^ 32) f n + tot L F m)) := if_neg hno
      have H2 : Hid (addE n f m L F = fitE (sm (2 ^ 32) f n + tot L F m)) := if_neg hno
      have hpart := Lib.hid (lg_no hl2')
      have hB1 := hB.below (w' := w.alloc (.cells #[.slice A n c] 22)) ((Below.refl _ _).alloc (Nat.le_refl _) _)
      have h2 := long_any _ _ d _ _ _ _ _ hB1 hm (by unfold maxLen; omega)
      rw [hl2'] at h2
      have h2' := Lib.hid h2
      have hs0 := Lib.hid (sm_tr (2 ^ 32) f n)
      have HL := Lib.hid lF
      clear h2 hl2 hl2' hno lF
      go_enter Tryd.func15, Tryd.ntmps15
      go_wp2_with (first
        | (go_at_call_of 27 (Value.slice (some ⟨w.heap.size, 0, none⟩) 1 1); refine (long_one _ _ _ _ _ _ hA hn (by unfold maxLen; omega) false hd'.out).mono ?_; rintro e w' ⟨rfl, rfl⟩)
        | (go_at_call 27; refine h2'.out.mono ?_; rintro e w' ⟨rfl, rfl⟩)
        | (go_at_call 30; refine (trim_any _ _ _ _ _ (hA.alloc _) hn (by unfold maxLen; omega)).mono ?_; rintro e w' ⟨rfl, rfl⟩)
        | (go_at_call 37; refine (clone_any _ _ _ f _ ((hA.alloc _).mono hle) (by omega)).mono ?_; rintro e w2 ⟨v2, rfl, hown2, hb2⟩))
      have ez : (w.alloc (.cells #[.slice A n c] 22)).heap.size = w.heap.size + 1 := by simp
      rw [ez] at hown2 hb2
      have hb0 : Below w.heap.size w w2 := ((Below.refl _ _).alloc (Nat.le_refl _) _).trans (hb2.mono (by omega))
      have hz2 : w.heap.size + 1 ≤ w2.heap.size := by have := hb2.size; rw [ez] at this; exact this
      clear ez hb2 h2' hB1
      go_loopw [6, 21] (fun s6 s21 wr => ∃ i : Nat, i ≤ m ∧ s21 = .int .i64 i ∧ AddLoop w.heap.size (w.heap.size + 1) w wr s6 i n f L F) (fun _ s21 _ => m - (intOf s21).toNat)
      case atStart => exact ⟨0, Nat.zero_le _, rfl, tr f n, f, hown2, hb0, hz2, lf.mono hle, by simpa [tot] using hs0.out, by omega⟩
      case round =>
        clear hb0 hown2 hz2
        obtain ⟨i, hi, rfl, hh⟩ := hrel
        by_cases hlt : i < m
        · have hB2 := hB.below hh.below
          obtain ⟨b, off, rfl, hbl, hcell⟩ := hB2 (by omega)
          obtain ⟨hx, hlc, hcm, hr⟩ := hcell i hlt
          clear hcell
          have hle2 := tr_le (F i) (L i)
          have hp := hpart.out i hlt
          have hli := HL.out i hlt
          have hold : ∀ b o, AA i = some ⟨b, o, none⟩ → 0 < tr (F i) (L i) → b < w.heap.size + 1 := fun b o e h0 => by
            obtain ⟨b0, off0, _, _, hc0⟩ := hB (by omega)
            obtain ⟨_, _, _, hr0⟩ := hc0 i hlt
            obtain ⟨b1, o1, e1, hb1, _⟩ := hr0 (by omega)
            rw [e] at e1
            injection e1 with e1
            injection e1 with e1
            omega
          have HO := Lib.hid hold
          unfold maxLen at hcm
          clear hold
          obtain ⟨n', f', ho, hbb, hzz, lf', hv, hn'⟩ := hh
          have HV := Lib.hid hv
          clear hv
          go_wp2_with (first
            | (go_at_call 30; refine (trim_any _ _ _ _ _ hr hlc (by unfold maxLen; omega)).mono ?_; rintro e w' ⟨rfl, rfl⟩)
            | (go_at_call 38; refine (plus_any (w.heap.size + 1) _ n' f' _ _ _ (F i) _ ho hzz (hr.mono hle2) HO.out lf' (hli.mono hle2) (by omega)).mono ?_; rintro e w3 ⟨v3, rfl, hend⟩))
          obtain ⟨n3, f3, ho3, hb3, lf3, hv3, hn3⟩ := hend
          go_roundw
          case rel => exact ⟨i + 1, by omega, by go_num, n3, f3, ho3, hbb.trans (hb3.mono (by omega)), Nat.le_trans hzz hb3.size, lf3, by rw [hv3, HV.out, sm_tr, tot]; omega, by omega⟩
          case measure => simp [intOf]; omega
        · obtain rfl : i = m := by omega
          obtain ⟨n', f', ho, hbb, hzz, lf', hv, hn'⟩ := hh
          obtain ⟨A', c', rfl, hnc', hcm', hr'⟩ := Rd.of_own ho
          have hbd := bounded_any A' n' c' f' _ hr' hnc' hcm' lf'
          rw [hv] at hbd
          have HBD := Lib.hid hbd
          clear hbd hv
          go_wp2_with (go_at_call 39; refine HBD.out.mono ?_; rintro e w3 ⟨A3, n3, c3, f3, rfl, hnum, hb3⟩)
          go_ret2
          rw [H1.out, H2.out]
          exact ⟨A3, n3, c3, f3, rfl, hnum, hbb.trans (hb3.mono hbb.size)⟩
end Go.Proofs.YtnikoojgoiobjaaDoor.nn
