/- Joined texts, what is wanted of them: FdCut, FdCut2, FdCut3, NnA, FdCut4, FdCut5, FdScan, FdScan2. -/
import Derived.Test.YtljbnnpmnoejeaaGreatDoorShelf
import Derived.Deep.QuietTactic
import Derived.BigQuiet
import Derived.Deep.RegionHeld3
import Derived.Test.YtljbnnpmnoejeaaGreatDoorJc
import Derived.Test.YtljbnnpmnoejeaaGreatDoorJb
import Derived.Test.YtljbnnpmnoejeaaGreatDoorJd
import Derived.Test.YtljbnnpmnoejeaaGreatDoorJa
namespace Go.Proofs.YtljbnnpmnoejeaaGreatDoor.nn
open Go.RowKit

theorem hp_one (S : ByteArray) (c : UInt8) : Lib.hasPrefix S.data.toList (⟨#[c]⟩ : ByteArray).data.toList = decide (0 < S.size ∧ bt S 0 = c.toNat) := by
  obtain ⟨⟨l⟩⟩ := S
  cases l with
  | nil => rfl
  | cons x l =>
    have h1 : bt ⟨⟨x :: l⟩⟩ 0 = x.toNat := by
      rw [bt_at (show 0 < (ByteArray.mk ⟨x :: l⟩).size by simp [ByteArray.size])]
      rfl
    rw [h1]
    have h2 : 0 < (ByteArray.mk ⟨x :: l⟩).size := by simp [ByteArray.size]
    show [c].isPrefixOf (x :: l) = _
    simp only [List.isPrefixOf, Bool.and_true]
    by_cases h : c = x
    · subst h
      rw [decide_eq_true ⟨h2, rfl⟩]
      exact beq_self_eq_true c
    · have h3 : x.toNat ≠ c.toNat := fun g => h (UInt8.toNat_inj.1 g).symm
      rw [decide_eq_false (fun g => h3 g.2)]
      exact beq_eq_false_iff_ne.2 h
set_option maxRecDepth 100000 in
set_option maxHeartbeats 400000 in
theorem cutPrefix_no (S : ByteArray) (c : UInt8) (w : World) (h : ¬ (0 < S.size ∧ bt S 0 = c.toNat)) :
    Calls Tryz.prog 30 #[.string S, .string ⟨#[c]⟩] w fun e w' => e = .returned (.tuple #[.string S, .bool false]) ∧ w = w' := by
  have HP := Lib.hid (fun W => Tryz.stringslite_HasPrefix S ⟨#[c]⟩ W)
  rw [hp_one, decide_eq_false h] at HP
  clear h
  have key : Hid (∀ W, Calls Tryz.prog 61 #[.string S, .string ⟨#[c]⟩] W fun e w' => e = .returned (.tuple #[.string S, .bool false]) ∧ W = w') := Lib.hid fun W => by
    go_enter Tryz.func61, Tryz.ntmps61
    go_wp2_with fail
    refine (HP.out _).mono ?_
    rintro e w' ⟨rfl, rfl⟩
    go_wp2_with fail
    go_ret2
    exact ⟨rfl, rfl⟩
  go_enter Tryz.func30, Tryz.ntmps30
  go_wp2_with fail
  refine (key.out _).mono ?_
  rintro e w' ⟨rfl, rfl⟩
  go_wp2_with fail
  go_ret2
  exact ⟨rfl, rfl⟩
set_option maxRecDepth 100000 in
set_option maxHeartbeats 400000 in
theorem cutPrefix_yes (S : ByteArray) (c : UInt8) (w : World) (hs : S.size ≤ maxLen) (h : 0 < S.size ∧ bt S 0 = c.toNat) :
    Calls Tryz.prog 30 #[.string S, .string ⟨#[c]⟩] w fun e w' => e = .returned (.tuple #[.string (S.extract 1 S.size), .bool true]) ∧ w = w' := by
  have HP := Lib.hid (fun W => Tryz.stringslite_HasPrefix S ⟨#[c]⟩ W)
  rw [hp_one, decide_eq_true h] at HP
  have h1 := h.1
  clear h
  unfold maxLen at hs
  have key : Hid (∀ W, Calls Tryz.prog 61 #[.string S, .string ⟨#[c]⟩] W fun e w' => e = .returned (.tuple #[.string (S.extract 1 S.size), .bool true]) ∧ W = w') := Lib.hid fun W => by
    go_enter Tryz.func61, Tryz.ntmps61
    go_wp2_with fail
    refine (HP.out _).mono ?_
    rintro e w' ⟨rfl, rfl⟩
    go_wp2_with fail
    go_ret2
    exact ⟨rfl, rfl⟩
  go_enter Tryz.func30, Tryz.ntmps30
  go_wp2_with fail
  refine (key.out _).mono ?_
  rintro e w' ⟨rfl, rfl⟩
  go_wp2_with fail
  go_ret2
  exact ⟨rfl, rfl⟩
/-- in s, at place a -/
def at_ (s : ByteArray) (a c : Nat) : Bool := decide (a < s.size ∧ bt s a = c)
def CpIs (s : ByteArray) (a : Nat) (B : Bool) (w : World) (e : Ending) (w' : World) : Prop := e = .returned (.tuple #[.string (sfx s (if B then a + 1 else a)), .bool B]) ∧ w = w'
theorem cutPrefix_at (s : ByteArray) (a : Nat) (c : UInt8) (w : World) (hs : s.size ≤ maxLen) (ha : a ≤ s.size) :
    Calls Tryz.prog 30 #[.string (sfx s a), .string ⟨#[c]⟩] w (CpIs s a (at_ s a c.toNat) w) := by
  have hz := sfx_size s a
  by_cases h : a < s.size ∧ bt s a = c.toNat
  · have e1 : at_ s a c.toNat = true := decide_eq_true h
    rw [e1]
    refine (cutPrefix_yes (sfx s a) c w (by unfold maxLen at *; omega) ⟨by omega, by rw [bt_sfx (by omega)]; exact h.2⟩).mono ?_
    rintro e w' ⟨rfl, rfl⟩
    rw [sfx_sfx (by omega)]
    exact ⟨rfl, rfl⟩
  · have e1 : at_ s a c.toNat = false := decide_eq_false h
    rw [e1]
    refine (cutPrefix_no (sfx s a) c w (fun g => h ⟨by omega, by have := g.2; rw [bt_sfx (by omega)] at this; exact this⟩)).mono ?_
    rintro e w' ⟨rfl, rfl⟩
    exact ⟨rfl, rfl⟩

set_option maxRecDepth 100000 in
set_option maxHeartbeats 1000000 in
theorem cutDigits_any (S A B : ByteArray) (k : Nat) (w : World) (hs : S.size ≤ maxLen) (hk : dc (bt S) S.size = k) (hA : S.extract 0 k = A) (hB : S.extract k S.size = B) :
    Calls Tryz.prog 111 #[.string S] w fun e w' => e = .returned (.tuple #[.string A, .string B]) ∧ ∃ j, w' = w.drewN j := by
  have HC := Lib.hid (fun W => countDigits_any S W hs)
  have hle := (dc_facts (bt S) S.size).1
  rw [hk] at HC hle
  unfold maxLen at hs
  have s1 : ∀ W, (Instr.slice 9 (.string S) none (some (.int .i64 (k : Int))) none).run Tryz.prog W = .ok (.string A) W := fun W => by
    rw [run_slice_string_h (w := W) (s := S) (ht := Tryz.underlying9) (h0 := by omega) (h2 := by omega), Int.toNat_natCast, hA]
  have s2 : ∀ W, (Instr.slice 9 (.string S) (some (.int .i64 (k : Int))) none none).run Tryz.prog W = .ok (.string B) W := fun W => by
    rw [run_slice_string_l (w := W) (s := S) (ht := Tryz.underlying9) (h0 := by omega) (h1 := by omega), Int.toNat_natCast, hB]
  clear hk hA hB
  go_enter Tryz.func111, Tryz.ntmps111
  go_wp2_with fail
  refine (HC.out _).mono ?_
  rintro e w' ⟨rfl, rfl⟩
  go_wp2_with fail
  go_quiet (fail)
  go_wp2
  go_ret2
  exact ⟨rfl, _, rfl⟩
/-- cutDigits, in s at place a -/
def CdIs (s : ByteArray) (a : Nat) (w : World) (e : Ending) (w' : World) : Prop := e = .returned (.tuple #[.string (cutT s a (a + rn s a)), .string (sfx s (a + rn s a))]) ∧ ∃ j, w' = w.drewN j
theorem cutDigits_at (s : ByteArray) (a : Nat) (w : World) (hs : s.size ≤ maxLen) (ha : a ≤ s.size) :
    Calls Tryz.prog 111 #[.string (sfx s a)] w (CdIs s a w) := by
  have h1 := rn_le s a
  refine (cutDigits_any (sfx s a) _ _ (rn s a) w (by have := sfx_size s a; unfold maxLen at *; omega) (dc_sfx a) rfl rfl).mono ?_
  rintro e w' ⟨rfl, j, rfl⟩
  rw [sfx_cut (by omega), sfx_sfx (by omega)]
  exact ⟨rfl, j, rfl⟩
/-- cutSign, in s at place a -/
def sgB (s : ByteArray) (a : Nat) : Bool := if at_ s a 43 then false else at_ s a 45
def sgA (s : ByteArray) (a : Nat) : Nat := if at_ s a 43 then a + 1 else if at_ s a 45 then a + 1 else a
def CsIs (s : ByteArray) (a : Nat) (w : World) (e : Ending) (w' : World) : Prop := e = .returned (.tuple #[.bool (sgB s a), .string (sfx s (sgA s a))]) ∧ w = w'
set_option maxRecDepth 100000 in
set_option maxHeartbeats 400000 in
theorem cutSign_at (s : ByteArray) (a : Nat) (w : World) (hs : s.size ≤ maxLen) (ha : a ≤ s.size) :
    Calls Tryz.prog 112 #[.string (sfx s a)] w (CsIs s a w) := by
  have H1 := Lib.hid (fun W => cutPrefix_at s a 43 W hs ha)
  have H2 := Lib.hid (fun W => cutPrefix_at s a 45 W hs ha)
  rw [show (43 : UInt8).toNat = 43 from rfl] at H1
  rw [show (45 : UInt8).toNat = 45 from rfl] at H2
  unfold CpIs at H1 H2
  unfold CsIs sgB sgA
  cases h1 : at_ s a 43 with
  | true =>
    rw [h1, if_pos rfl] at H1
    clear H2 h1
    rw [if_pos rfl, if_pos rfl]
    obtain ⟨T, hT⟩ : ∃ T, sfx s (a + 1) = T := ⟨_, rfl⟩
    rw [hT] at H1
    rw [hT]
    clear hT
    go_enter Tryz.func112, Tryz.ntmps112
    go_wp2_with fail
    refine (H1.out _).mono ?_
    rintro e w' ⟨rfl, rfl⟩
    go_wp2_with fail
    go_ret2
    exact ⟨rfl, rfl⟩
  | false =>
    rw [h1, if_neg (by decide)] at H1
    rw [if_neg (by decide), if_neg (by decide)]
    obtain ⟨B, hB⟩ : ∃ B, at_ s a 45 = B := ⟨_, rfl⟩
    rw [hB] at H2
    rw [hB]
    obtain ⟨T, hT⟩ : ∃ T, sfx s (if B = true then a + 1 else a) = T := ⟨_, rfl⟩
    rw [hT] at H2
    rw [hT]
    clear hT h1 hB
    go_enter Tryz.func112, Tryz.ntmps112
    go_wp2_with fail
    refine (H1.out _).mono ?_
    rintro e w' ⟨rfl, rfl⟩
    go_wp2_with fail
    refine (H2.out _).mono ?_
    rintro e w' ⟨rfl, rfl⟩
    go_wp2_with fail
    go_ret2
    exact ⟨rfl, rfl⟩
end Go.Proofs.YtljbnnpmnoejeaaGreatDoor.nn
namespace Go.Proofs.YtljbnnpmnoejeaaGreatDoor.nn
open Go.RowKit

/-- the parts of a number as a value -/
def pV (neg : Bool) (W F : ByteArray) (ng : Bool) (X : ByteArray) : Value := .agg #[.bool neg, .string W, .string F, .bool ng, .string X]
def plZ (ng : Bool) (X F : ByteArray) : Int := (if ng then -(dv (bt X) X.size : Int) else (dv (bt X) X.size : Int)) - (F.size : Int)
/-- the boxed parts -/
structure Bp (w : World) (neg : Bool) (F : ByteArray) (ng : Bool) (X : ByteArray) (W : World) : Prop where
  c2 : W.cell? ⟨w.heap.size, 2, none⟩ = some (.string F)
  c3 : W.cell? ⟨w.heap.size, 3, none⟩ = some (.bool ng)
  c4 : W.cell? ⟨w.heap.size, 4, none⟩ = some (.string X)
  b : Below w.heap.size w W
set_option maxRecDepth 100000 in
set_option maxHeartbeats 1000000 in
theorem place_any (neg : Bool) (Wt F : ByteArray) (ng : Bool) (X : ByteArray) (w : World) (hX : X.size ≤ 4) (hF : F.size ≤ 1000) (hd : dgs (bt X) X.size = true) :
    Calls Tryz.prog 72 #[pV neg Wt F ng X] w fun e w' => e = .returned (.int .i64 (plZ ng X F)) ∧ Below w.heap.size w w' := by
  unfold pV
  have HB := Lib.hid (fun T => (⟨by simp, by simp, by simp, (Below.refl _ _).alloc (Nat.le_refl _) _⟩ : Bp w neg F ng X (w.alloc (.cells #[.bool neg, .string Wt, .string F, .bool ng, .string X] T))))
  have HD := Lib.hid hd
  clear hd
  go_enter Tryz.func72, Tryz.ntmps72
  go_wp2_with fail
  have H1 := Lib.hid (HB.out 104)
  obtain ⟨W1, hW1⟩ : ∃ W1, w.alloc (.cells #[.bool neg, .string Wt, .string F, .bool ng, .string X] 104) = W1 := ⟨_, rfl⟩
  rw [hW1] at H1 ⊢
  clear hW1 HB
  have c2 := H1.out.c2
  have c3 := H1.out.c3
  have c4 := H1.out.c4
  go_wp2_with fail
  go_loop [3, 8] (fun s3 s8 => ∃ i : Nat, i ≤ X.size ∧ s8 = .int .i64 (i : Int) ∧ s3 = .int .i64 (dv (bt X) i : Int)) (fun _ s8 => X.size - (intOf s8).toNat)
  case atStart => exact ⟨0, Nat.zero_le _, rfl, rfl⟩
  case round =>
    obtain ⟨i, hi, rfl, rfl⟩ := hrel
    have hv : dv (bt X) i < 10000 := by
      have h1 := dv_lt (dgs_mono HD.out hi)
      have h2 : 10 ^ i ≤ 10 ^ 4 := Nat.pow_le_pow_right (by decide) (by omega)
      omega
    by_cases hlt : i < X.size
    · have hx := bt_at hlt
      have hdx := dgs_at HD.out hlt
      have HV : Hid (dv (bt X) (i + 1) = dv (bt X) i * 10 + (bt X i - 48)) := Lib.hid rfl
      obtain ⟨x, hxx⟩ : ∃ x, X[i].toNat = x := ⟨_, rfl⟩
      rw [hxx] at hx
      rw [hx] at hdx HV
      obtain ⟨D, hDD⟩ : ∃ D, dv (bt X) i = D := ⟨_, rfl⟩
      rw [hDD] at hv HV
      rw [hDD]
      clear hx hDD
      go_wp2_with fail
      go_round
      case rel => exact ⟨i + 1, by omega, by go_num, congrArg (Value.int .i64) (by rw [HV.out]; omega)⟩
      case measure => simp [intOf]; omega
    · obtain rfl : i = X.size := by omega
      have HP : Hid (plZ ng X F = (if ng then -(dv (bt X) X.size : Int) else (dv (bt X) X.size : Int)) - (F.size : Int)) := Lib.hid rfl
      obtain ⟨D, hDD⟩ : ∃ D, dv (bt X) X.size = D := ⟨_, rfl⟩
      rw [hDD] at hv HP
      rw [hDD]
      clear hDD
      cases ng
      · go_wp2_with fail
        go_ret
        exact ⟨ret_int (by rw [HP.out]; simp), H1.out.b⟩
      · go_wp2_with fail
        go_ret
        exact ⟨ret_int (by rw [HP.out]; simp), H1.out.b⟩
end Go.Proofs.YtljbnnpmnoejeaaGreatDoor.nn
namespace Go.Proofs.YtljbnnpmnoejeaaGreatDoor.nn
open Go.RowKit

/-! the places of a written number -/
def cA (s : ByteArray) : Nat := if at_ s 0 45 then 1 else 0
def cB (s : ByteArray) : Nat := cA s + rn s (cA s)
def cDot (s : ByteArray) : Bool := at_ s (cB s) 46
def cC (s : ByteArray) : Nat := if cDot s then cB s + 1 + rn s (cB s + 1) else cB s
def cE (s : ByteArray) : Bool := at_ s (cC s) 101 || at_ s (cC s) 69
def cS (s : ByteArray) : Nat := sgA s (cC s + 1)
def cD (s : ByteArray) : Nat := if cE s then cS s + rn s (cS s) else cC s
/-- the form is right -/
def cOk (s : ByteArray) : Bool := decide (0 < rn s (cA s)) && (!cDot s || decide (0 < rn s (cB s + 1))) && (!cE s || decide (0 < rn s (cS s))) && decide (cD s = s.size)
def cW (s : ByteArray) : ByteArray := cutT s (cA s) (cB s)
def cF (s : ByteArray) : ByteArray := if cDot s then cutT s (cB s + 1) (cC s) else ⟨#[]⟩
def cX (s : ByteArray) : ByteArray := if cE s then cutT s (cS s) (cD s) else ⟨#[]⟩
def cN (s : ByteArray) : Bool := if cE s then sgB s (cC s + 1) else false
theorem at_le {s : ByteArray} {a c : Nat} (h : at_ s a c = true) : a < s.size ∧ bt s a = c := of_decide_eq_true h
theorem cA_le (s : ByteArray) : cA s ≤ s.size := by
  unfold cA
  split
  · have := (at_le ‹_›).1; omega
  · omega
theorem cB_le (s : ByteArray) : cB s ≤ s.size := by
  have h1 := cA_le s
  have h2 := rn_le s (cA s)
  unfold cB
  omega
theorem cC_le (s : ByteArray) : cC s ≤ s.size ∧ (cDot s = true → cB s + 1 ≤ s.size) := by
  have h1 := cB_le s
  have h2 := rn_le s (cB s + 1)
  unfold cC
  cases h : cDot s with
  | true =>
    have := (at_le h).1
    rw [if_pos rfl]
    exact ⟨by omega, fun _ => by omega⟩
  | false => rw [if_neg (by decide)]; exact ⟨h1, fun h => by cases h⟩
theorem sgA_le {s : ByteArray} {a : Nat} (h : a ≤ s.size) : a ≤ sgA s a ∧ sgA s a ≤ s.size := by
  unfold sgA
  split
  · have := (at_le ‹_›).1; omega
  · split
    · have := (at_le ‹_›).1; omega
    · omega
theorem cE_lt {s : ByteArray} (h : cE s = true) : cC s + 1 ≤ s.size := by
  unfold cE at h
  rw [Bool.or_eq_true] at h
  rcases h with h | h
  · have := (at_le h).1; omega
  · have := (at_le h).1; omega
theorem cD_le (s : ByteArray) : cD s ≤ s.size := by
  unfold cD
  cases h : cE s with
  | true =>
    have h1 := cE_lt h
    have h2 := sgA_le h1
    have h3 := rn_le s (cS s)
    unfold cS at *
    rw [if_pos rfl]
    omega
  | false => rw [if_neg (by decide)]; exact (cC_le s).1
/-- is a text empty -/
theorem empty_of (S : ByteArray) : S.toList.isEmpty = decide (S.size = 0) := by
  by_cases h : S.size = 0
  · rw [nil_text h, ByteArray.toList_eq]; rfl
  · rw [not_nil_text (by omega), decide_eq_false h]

/-! the two boxes of cut: the answer's, at the call's first block, and the parts' behind it -/
def row5 (a b c d e : Value) : Array Value := #[a, b, c, d, e]
def e0 : ByteArray := ⟨#[]⟩
structure Cx (w : World) (a b c d e : Value) (W : World) : Prop where
  r : W.heap[w.heap.size]? = some (.cells (row5 (.bool false) (.string e0) (.string e0) (.bool false) (.string e0)) 104 (0, 0))
  p : W.heap[w.heap.size + 1]? = some (.cells (row5 a b c d e) 104 (0, 0))
  b : Below w.heap.size w W
  z : w.heap.size + 1 < W.heap.size
theorem Cx.new (w : World) : Cx w (.bool false) (.string e0) (.string e0) (.bool false) (.string e0) ((w.alloc (.cells #[.bool false, .string ⟨#[]⟩, .string ⟨#[]⟩, .bool false, .string ⟨#[]⟩] 104)).alloc (.cells #[.bool false, .string ⟨#[]⟩, .string ⟨#[]⟩, .bool false, .string ⟨#[]⟩] 104)) := by
  refine ⟨?_, ?_, ((Below.refl _ _).alloc (Nat.le_refl _) _).alloc (by rw [hsz]; omega) _, by rw [hsz, hsz]; omega⟩
  · show ((w.heap.push _).push _)[w.heap.size]? = _
    rw [Array.getElem?_push, if_neg (by simp), Array.getElem?_push, if_pos rfl]
    rfl
  · show ((w.heap.push _).push _)[w.heap.size + 1]? = _
    rw [Array.getElem?_push, if_pos (by simp)]
    rfl
section
variable {w W W' : World} {a b c d e : Value}
theorem Cx.on (h : Cx w a b c d e W) (hb : Below W.heap.size W W') : Cx w a b c d e W' :=
  ⟨(hb.block _ (by have := h.z; omega)).trans h.r, (hb.block _ h.z).trans h.p, h.b.trans (hb.mono (by have := h.z; omega)), Nat.lt_of_lt_of_le h.z hb.size⟩
theorem Cx.put (h : Cx w a b c d e W) (i : Nat) (v : Value) (a' b' c' d' e' : Value) (hr : (row5 a b c d e).setIfInBounds i v = row5 a' b' c' d' e') : Cx w a' b' c' d' e' (W.setCell ⟨w.heap.size + 1, i, none⟩ v) := by
  refine ⟨?_, ?_, h.b.setCell (by show w.heap.size ≤ w.heap.size + 1; omega) _, by have := h.z; simpa [World.setCell] using this⟩
  · have := h.r
    simp [World.setCell, Array.getElem?_modify, this]
  · have := h.p
    rw [← hr]
    simp [World.setCell, Array.getElem?_modify, this]
theorem Cx.put0 (h : Cx w a b c d e W) (v : Value) : Cx w v b c d e (W.setCell ⟨w.heap.size + 1, 0, none⟩ v) := h.put 0 v _ _ _ _ _ rfl
theorem Cx.put1 (h : Cx w a b c d e W) (v : Value) : Cx w a v c d e (W.setCell ⟨w.heap.size + 1, 1, none⟩ v) := h.put 1 v _ _ _ _ _ rfl
theorem Cx.put2 (h : Cx w a b c d e W) (v : Value) : Cx w a b v d e (W.setCell ⟨w.heap.size + 1, 2, none⟩ v) := h.put 2 v _ _ _ _ _ rfl
theorem Cx.put3 (h : Cx w a b c d e W) (v : Value) : Cx w a b c v e (W.setCell ⟨w.heap.size + 1, 3, none⟩ v) := h.put 3 v _ _ _ _ _ rfl
theorem Cx.put4 (h : Cx w a b c d e W) (v : Value) : Cx w a b c d v (W.setCell ⟨w.heap.size + 1, 4, none⟩ v) := h.put 4 v _ _ _ _ _ rfl
theorem Cx.at (h : Cx w a b c d e W) (i : Nat) : W.cell? ⟨w.heap.size + 1, i, none⟩ = (row5 a b c d e)[i]? ∧ W.frozen? ⟨w.heap.size + 1, i, none⟩ = false := by
  refine ⟨cell_of_row W _ i _ _ _ h.p, ?_⟩
  have := h.p
  simp [World.frozen?, this]
theorem Cx.rat (h : Cx w a b c d e W) (i : Nat) : W.cell? ⟨w.heap.size, i, none⟩ = (row5 (.bool false) (.string e0) (.string e0) (.bool false) (.string e0))[i]? ∧ W.frozen? ⟨w.heap.size, i, none⟩ = false := by
  refine ⟨cell_of_row W _ i _ _ _ h.r, ?_⟩
  have := h.r
  simp [World.frozen?, this]
theorem Cx.cells (h : Cx w a b c d e W) : W.cell? ⟨w.heap.size + 1, 0, none⟩ = some a ∧ W.cell? ⟨w.heap.size + 1, 1, none⟩ = some b ∧ W.cell? ⟨w.heap.size + 1, 2, none⟩ = some c ∧ W.cell? ⟨w.heap.size + 1, 3, none⟩ = some d ∧ W.cell? ⟨w.heap.size + 1, 4, none⟩ = some e :=
  ⟨(h.at 0).1, (h.at 1).1, (h.at 2).1, (h.at 3).1, (h.at 4).1⟩
theorem Cx.marks (h : Cx w a b c d e W) : W.frozen? ⟨w.heap.size + 1, 0, none⟩ = false ∧ W.frozen? ⟨w.heap.size + 1, 1, none⟩ = false ∧ W.frozen? ⟨w.heap.size + 1, 2, none⟩ = false ∧ W.frozen? ⟨w.heap.size + 1, 3, none⟩ = false ∧ W.frozen? ⟨w.heap.size + 1, 4, none⟩ = false :=
  ⟨(h.at 0).2, (h.at 1).2, (h.at 2).2, (h.at 3).2, (h.at 4).2⟩
theorem Cx.rcells (h : Cx w a b c d e W) : W.cell? ⟨w.heap.size, 0, none⟩ = some (.bool false) ∧ W.cell? ⟨w.heap.size, 1, none⟩ = some (.string e0) ∧ W.cell? ⟨w.heap.size, 2, none⟩ = some (.string e0) ∧ W.cell? ⟨w.heap.size, 3, none⟩ = some (.bool false) ∧ W.cell? ⟨w.heap.size, 4, none⟩ = some (.string e0) :=
  ⟨(h.rat 0).1, (h.rat 1).1, (h.rat 2).1, (h.rat 3).1, (h.rat 4).1⟩
theorem Cx.rmarks (h : Cx w a b c d e W) : W.frozen? ⟨w.heap.size, 0, none⟩ = false ∧ W.frozen? ⟨w.heap.size, 1, none⟩ = false ∧ W.frozen? ⟨w.heap.size, 2, none⟩ = false ∧ W.frozen? ⟨w.heap.size, 3, none⟩ = false ∧ W.frozen? ⟨w.heap.size, 4, none⟩ = false :=
  ⟨(h.rat 0).2, (h.rat 1).2, (h.rat 2).2, (h.rat 3).2, (h.rat 4).2⟩
end
def CuAns (neg : Bool) (Wt F : ByteArray) (ng : Bool) (X : ByteArray) (ok : Bool) (w : World) (e : Ending) (w' : World) : Prop :=
  e = .returned (.tuple #[.agg #[.bool neg, .string Wt, .string F, .bool ng, .string X], .bool ok]) ∧ Below w.heap.size w w'
def Cp (w : World) (S T : ByteArray) (c : UInt8) (B : Bool) : Prop := ∀ a1 a2 a3 a4 a5 W, Cx w a1 a2 a3 a4 a5 W → Calls Tryz.prog 30 #[.string S, .string ⟨#[c]⟩] W fun e w' => e = .returned (.tuple #[.string T, .bool B]) ∧ Cx w a1 a2 a3 a4 a5 w'
def Cd (w : World) (S A B : ByteArray) : Prop := ∀ a1 a2 a3 a4 a5 W, Cx w a1 a2 a3 a4 a5 W → Calls Tryz.prog 111 #[.string S] W fun e w' => e = .returned (.tuple #[.string A, .string B]) ∧ Cx w a1 a2 a3 a4 a5 w'
def Cs (w : World) (S T : ByteArray) (ng : Bool) : Prop := ∀ a1 a2 a3 a4 a5 W, Cx w a1 a2 a3 a4 a5 W → Calls Tryz.prog 112 #[.string S] W fun e w' => e = .returned (.tuple #[.bool ng, .string T]) ∧ Cx w a1 a2 a3 a4 a5 w'
end Go.Proofs.YtljbnnpmnoejeaaGreatDoor.nn
namespace Go.Proofs.YtljbnnpmnoejeaaGreatDoor.nn

/-- the state behind a byte: 0 ahead of all, 1 behind -, 2 behind a 0 ahead, 3 in digits, 4 behind the point, 5 in digits behind it, 6 behind e, 7 behind e's sign, 8 in digits behind e, 9 none -/
def nst (q b : Nat) : Nat :=
  if dg b = true then (if q = 0 ∨ q = 1 then (if b = 48 then 2 else 3) else if q = 3 then 3 else if q = 4 ∨ q = 5 then 5 else if q = 6 ∨ q = 7 ∨ q = 8 then 8 else 9)
  else if b = 45 then (if q = 0 then 1 else if q = 6 then 7 else 9)
  else if b = 43 then (if q = 6 then 7 else 9)
  else if b = 46 then (if q = 2 ∨ q = 3 then 4 else 9)
  else if b = 101 ∨ b = 69 then (if q = 2 ∨ q = 3 ∨ q = 5 then 6 else 9)
  else 9
/-- the state behind n bytes -/
def nq (f : Nat → Nat) : Nat → Nat
  | 0 => 0
  | n + 1 => nst (nq f n) (f n)
/-- is a number whole here -/
def nacc (q : Nat) : Bool := decide (q = 2 ∨ q = 3 ∨ q = 5 ∨ q = 8)
/-- where a number ends, or errs, and how -/
structure NmIs (s : ByteArray) (p e : Nat) : Prop where
  le : p ≤ s.size
  go : nq (bt s) p ≠ 9
  no : p < s.size → nq (bt s) (p + 1) = 9
  er : e = if nacc (nq (bt s) p) = true then 0 else if p = s.size then 3 else 4
theorem nst_nine (b : Nat) : nst 9 b = 9 := by
  unfold nst
  simp
theorem nst_le {q b : Nat} : nst q b ≤ 9 := by
  unfold nst
  repeat' split
  all_goals omega
theorem nq_le (f : Nat → Nat) (n : Nat) : nq f n ≤ 9 := by
  cases n with
  | zero => show 0 ≤ 9; omega
  | succ n => exact nst_le
theorem nq_more {f : Nat → Nat} {n : Nat} (h : nq f n = 9) (m : Nat) : nq f (n + m) = 9 := by
  induction m with
  | zero => exact h
  | succ m ih => rw [← Nat.add_assoc, nq, ih, nst_nine]
theorem nq_less {f : Nat → Nat} {n m : Nat} (h : nq f n ≠ 9) (hm : m ≤ n) : nq f m ≠ 9 := fun g => h (by
  have := nq_more g (n - m)
  rwa [Nat.add_sub_cancel' hm] at this)
theorem nq_congr {f g : Nat → Nat} {n : Nat} (h : ∀ i, i < n → f i = g i) : nq f n = nq g n := by
  induction n with
  | zero => rfl
  | succ n ih => rw [nq, nq, ih (fun i hi => h i (by omega)), h n (by omega)]
theorem NmIs.uniq {s : ByteArray} {p e p' e' : Nat} (h : NmIs s p e) (h' : NmIs s p' e') : p = p' ∧ e = e' := by
  have hp : p = p' := by
    rcases Nat.lt_trichotomy p p' with g | g | g
    · exact absurd (h.no (Nat.lt_of_lt_of_le g h'.le)) (nq_less h'.go g)
    · exact g
    · exact absurd (h'.no (Nat.lt_of_lt_of_le g h.le)) (nq_less h.go g)
  subst hp
  exact ⟨rfl, h.er.trans h'.er.symm⟩
/-- behind n bytes the state is q -/
def At (s : ByteArray) (n q : Nat) : Prop := n ≤ s.size ∧ nq (bt s) n = q
theorem At.zero (s : ByteArray) : At s 0 0 := ⟨Nat.zero_le _, rfl⟩
theorem At.step {s : ByteArray} {n q b q' : Nat} (h : At s n q) (hn : n < s.size) (hb : bt s n = b) (e : nst q b = q') : At s (n + 1) q' := ⟨hn, by rw [nq, h.2, hb, e]⟩
theorem nst_digit {q b : Nat} (h : dg b = true) (hq : q = 3 ∨ q = 5 ∨ q = 8) : nst q b = q := by
  unfold nst
  rw [if_pos h]
  rcases hq with rfl | rfl | rfl <;> simp
/-- through digits -/
theorem At.run {s : ByteArray} {n q m : Nat} (h : At s n q) (hq : q = 3 ∨ q = 5 ∨ q = 8) (hm : n + m ≤ s.size) (hd : dgs (fun i => bt s (n + i)) m = true) : At s (n + m) q := by
  induction m with
  | zero => exact h
  | succ m ih =>
    have h1 := ih (by omega) (dgs_mono hd (Nat.le_succ m))
    have h2 := dgs_at hd (Nat.lt_succ_self m)
    exact h1.step (by omega) rfl (nst_digit (decide_eq_true h2) hq)
theorem rn_facts (s : ByteArray) (a : Nat) : dgs (fun i => bt s (a + i)) (rn s a) = true ∧ (rn s a = s.size - a ∨ dg (bt s (a + rn s a)) = false) := (dc_facts _ _).2
theorem rn_zero {s : ByteArray} {a : Nat} (ha : a < s.size) (h : rn s a = 0) : dg (bt s a) = false := by
  rcases (rn_facts s a).2 with g | g
  · omega
  · rwa [h] at g
theorem rn_pos {s : ByteArray} {a : Nat} (h : 0 < rn s a) : a < s.size ∧ dg (bt s a) = true := by
  have h1 := rn_le s a
  refine ⟨by omega, ?_⟩
  have h2 := dgs_at (rn_facts s a).1 h
  exact decide_eq_true h2
/-- at a place where a digit must come, n digits come -/
theorem At.digits {s : ByteArray} {a q q' : Nat} (h : At s a q) (hq : (q = 4 ∧ q' = 5) ∨ ((q = 6 ∨ q = 7) ∧ q' = 8)) (hn : 0 < rn s a) : At s (a + rn s a) q' := by
  have h1 := rn_le s a
  obtain ⟨h2, h3⟩ := rn_pos hn
  have hst : nst q (bt s a) = q' := by
    unfold nst
    rw [if_pos h3]
    rcases hq with ⟨rfl, rfl⟩ | ⟨rfl | rfl, rfl⟩ <;> simp
  have h4 := h.step h2 rfl hst
  have h5 := h4.run (m := rn s a - 1) (by rcases hq with ⟨_, rfl⟩ | ⟨_, rfl⟩ <;> simp) (by omega) (by
    have h6 := (rn_facts s a).1
    have : ∀ m, m + 1 ≤ rn s a → dgs (fun i => bt s (a + 1 + i)) m = true := by
      intro m
      induction m with
      | zero => intro _; rfl
      | succ m ih =>
        intro hm
        rw [dgs, ih (by omega), Bool.true_and]
        have := dgs_at h6 (show m + 1 < rn s a by omega)
        rw [show a + 1 + m = a + (m + 1) by omega]
        exact decide_eq_true this
    exact this _ (by omega))
  rwa [show a + 1 + (rn s a - 1) = a + rn s a by omega] at h5
/-- at the beginning: 0, or digits -/
theorem At.first {s : ByteArray} {a q : Nat} (h : At s a q) (hq : q = 0 ∨ q = 1) (hn : 0 < rn s a) : (bt s a = 48 → At s (a + 1) 2) ∧ (bt s a ≠ 48 → At s (a + rn s a) 3) := by
  have h1 := rn_le s a
  obtain ⟨h2, h3⟩ := rn_pos hn
  refine ⟨fun g => h.step h2 g ?_, fun g => ?_⟩
  · rcases hq with rfl | rfl <;> rfl
  · have hst : nst q (bt s a) = 3 := by
      unfold nst
      rw [if_pos h3, if_pos hq, if_neg g]
    have h4 := h.step h2 rfl hst
    have h5 := h4.run (m := rn s a - 1) (.inl rfl) (by omega) (by
      have h6 := (rn_facts s a).1
      have : ∀ m, m + 1 ≤ rn s a → dgs (fun i => bt s (a + 1 + i)) m = true := by
        intro m
        induction m with
        | zero => intro _; rfl
        | succ m ih =>
          intro hm
          rw [dgs, ih (by omega), Bool.true_and]
          have := dgs_at h6 (show m + 1 < rn s a by omega)
          rw [show a + 1 + m = a + (m + 1) by omega]
          exact decide_eq_true this
      exact this _ (by omega))
    rwa [show a + 1 + (rn s a - 1) = a + rn s a by omega] at h5
/-- where no digit comes though one must -/
theorem At.bad {s : ByteArray} {a q : Nat} (h : At s a q) (hq : q = 0 ∨ q = 1 ∨ q = 4 ∨ q = 6 ∨ q = 7) (hn : rn s a = 0) (h0 : q = 0 → a < s.size → bt s a ≠ 45) (h6 : q = 6 → a < s.size → bt s a ≠ 45 ∧ bt s a ≠ 43) : NmIs s a (if s.size ≤ a then 3 else 4) := by
  refine ⟨h.1, by rw [h.2]; omega, fun hl => ?_, ?_⟩
  · rw [nq, h.2]
    have hd := rn_zero hl hn
    have g0 := fun e => h0 e hl
    have g6 := fun e => h6 e hl
    unfold nst
    rw [hd]
    generalize bt s a = b at *
    rcases hq with rfl | rfl | rfl | rfl | rfl
    · have := g0 rfl; simp [this]
    · simp
    · simp
    · have := g6 rfl; simp [this.1, this.2]
    · simp
  · have ha := h.1
    have hq2 : nacc (nq (bt s) a) = false := by
      rw [h.2]
      rcases hq with rfl | rfl | rfl | rfl | rfl <;> rfl
    rw [hq2, if_neg (show ¬ (false = true) by decide)]
    by_cases e : a = s.size
    · rw [if_pos e, if_pos (by omega)]
    · rw [if_neg e, if_neg (by omega)]
/-- where a number ends -/
theorem At.fine {s : ByteArray} {a q : Nat} (h : At s a q) (hq : q = 2 ∨ q = 3 ∨ q = 5 ∨ q = 8) (hd : a < s.size → q ≠ 2 → dg (bt s a) = false) (hp : a < s.size → (q = 2 ∨ q = 3) → bt s a ≠ 46) (he : a < s.size → q ≠ 8 → bt s a ≠ 101 ∧ bt s a ≠ 69) : NmIs s a 0 := by
  refine ⟨h.1, by rw [h.2]; omega, fun hl => ?_, ?_⟩
  · rw [nq, h.2]
    have g1 := hd hl
    have g2 := hp hl
    have g3 := he hl
    generalize bt s a = b at *
    unfold nst
    rcases hq with rfl | rfl | rfl | rfl
    · have e2 := g2 (.inl rfl)
      obtain ⟨e3, e4⟩ := g3 (by omega)
      split
      · simp
      · simp [e3, e4]
    · have e1 := g1 (by omega)
      have e2 := g2 (.inr rfl)
      obtain ⟨e3, e4⟩ := g3 (by omega)
      rw [e1]
      simp [e2, e3, e4]
    · have e1 := g1 (by omega)
      obtain ⟨e3, e4⟩ := g3 (by omega)
      rw [e1]
      simp [e3, e4]
    · have e1 := g1 (by omega)
      rw [e1]
      simp
  · rw [h.2]
    rcases hq with rfl | rfl | rfl | rfl <;> rfl
theorem bt_left {a b : ByteArray} {i : Nat} (h : i < a.size) : bt (a ++ b) i = bt a i := by
  rw [bt_at (show i < (a ++ b).size by rw [ByteArray.size_append]; omega), bt_at h, ByteArray.getElem_append_left h]
theorem bt_right {a b : ByteArray} {i : Nat} (h : i < b.size) : bt (a ++ b) (a.size + i) = bt b i := by
  rw [bt_at (show a.size + i < (a ++ b).size by rw [ByteArray.size_append]; omega), bt_at h, ByteArray.getElem_append_right (Nat.le_add_right _ _)]
  congr 1
  simp
/-- all ahead of the byte that errs, and a digit, is a number -/
theorem NmIs.one {s : ByteArray} {p e : Nat} (h : NmIs s p e) (he : e ≠ 0) : NmIs (cutT s 0 p ++ ⟨#[49]⟩) (p + 1) 0 := by
  have hz : (cutT s 0 p).size = p := by rw [cutT_size h.le]; omega
  have hz2 : (cutT s 0 p ++ ⟨#[49]⟩).size = p + 1 := by rw [ByteArray.size_append, hz]; rfl
  have hc : nq (bt (cutT s 0 p ++ ⟨#[49]⟩)) p = nq (bt s) p := nq_congr fun i hi => by
    rw [bt_left (by omega), bt_cutT h.le (by omega), Nat.zero_add]
  have hl : bt (cutT s 0 p ++ ⟨#[49]⟩) p = 49 := by
    have := bt_right (a := cutT s 0 p) (b := ⟨#[49]⟩) (i := 0) (by decide)
    rw [hz, Nat.add_zero] at this
    rw [this]
    rfl
  have hg := h.go
  have hle := nq_le (bt s) p
  have hna : nacc (nq (bt s) p) = false := by
    cases hh : nacc (nq (bt s) p) with
    | false => rfl
    | true => have := h.er; rw [hh, if_pos rfl] at this; exact absurd this he
  have hst : nacc (nq (bt (cutT s 0 p ++ ⟨#[49]⟩)) (p + 1)) = true := by
    rw [nq, hc, hl]
    generalize nq (bt s) p = q at *
    have h3 : q = 0 ∨ q = 1 ∨ q = 4 ∨ q = 6 ∨ q = 7 := by
      unfold nacc at hna
      have := of_decide_eq_false hna
      omega
    rcases h3 with rfl | rfl | rfl | rfl | rfl <;> rfl
  refine ⟨by omega, fun g => ?_, fun hl => by omega, by rw [hst, if_pos rfl]⟩
  rw [g] at hst
  exact absurd hst (by decide)
/-- whatever stands behind the byte that errs -/
theorem NmIs.more {s : ByteArray} {p : Nat} (h : NmIs s p 4) (T : ByteArray) : NmIs (cutT s 0 (p + 1) ++ T) p 4 ∧ p < s.size := by
  have he := h.er
  have hna : nacc (nq (bt s) p) = false := by
    cases hh : nacc (nq (bt s) p) with
    | false => rfl
    | true => rw [hh, if_pos rfl] at he; omega
  rw [hna, if_neg (by decide)] at he
  have hp : p < s.size := by
    have := h.le
    split at he <;> omega
  have hz : (cutT s 0 (p + 1)).size = p + 1 := by rw [cutT_size (by omega)]; omega
  have hz2 : (cutT s 0 (p + 1) ++ T).size = p + 1 + T.size := by rw [ByteArray.size_append, hz]
  have hc : ∀ k, k ≤ p + 1 → nq (bt (cutT s 0 (p + 1) ++ T)) k = nq (bt s) k := fun k hk => nq_congr fun i hi => by
    rw [bt_left (by omega), bt_cutT (by omega) (by omega), Nat.zero_add]
  refine ⟨⟨by omega, by rw [hc p (by omega)]; exact h.go, fun _ => by rw [hc (p + 1) (by omega)]; exact h.no hp, ?_⟩, hp⟩
  rw [hc p (by omega), hna, if_neg (by decide), if_neg (by omega)]
end Go.Proofs.YtljbnnpmnoejeaaGreatDoor.nn
namespace Go.Proofs.YtljbnnpmnoejeaaGreatDoor.nn
open Go.RowKit

set_option maxRecDepth 100000 in
set_option maxHeartbeats 4000000 in
theorem cut_0z (s T1 T2 Wt : ByteArray) (neg bW : Bool) (w : World) (H1 : Hid (Cp w s T1 45 neg)) (H2 : Hid (Cd w T1 Wt T2)) (zW : Wt.toList.isEmpty = !bW) (H3 : Hid (Cp w T2 T2 46 false)) (zT : T2.toList.isEmpty = true) :
    Calls Tryz.prog 71 #[.string s] w (CuAns neg Wt e0 false e0 (bW) w) := by
  have HX := Lib.hid (Cx.new w)
  cases bW
  all_goals
    go_enter Tryz.func71, Tryz.ntmps71
    go_wp2_with fail
    refine (H1.out _ _ _ _ _ _ HX.out).mono ?_
    rintro e w1 ⟨rfl, hx⟩
    have X1 := Lib.hid (hx.put0 (.bool neg))
    have f0 := hx.marks.1
    have c0 := hx.cells.1
    clear hx
    go_wp2_with fail
    refine (H2.out _ _ _ _ _ _ X1.out).mono ?_
    rintro e w2 ⟨rfl, hx⟩
    have X2 := Lib.hid (hx.put1 (.string Wt))
    have f1 := hx.marks.2.1
    have c1 := hx.cells.2.1
    clear hx f0 c0
    go_wp2_with fail
    refine (H3.out _ _ _ _ _ _ X2.out).mono ?_
    rintro e w3 ⟨rfl, hx⟩
    clear f1 c1
    have X3 := Lib.hid hx
    clear hx
    obtain ⟨c0, c1, c2, c3, c4⟩ := X3.out.cells
    obtain ⟨r0, r1, r2, r3, r4⟩ := X3.out.rcells
    obtain ⟨m0, m1, m2, m3, m4⟩ := X3.out.rmarks
    go_wp2_with fail
    first
      | refine bodyPost_ret (v := .tuple #[.agg #[.bool neg, .string Wt, .string e0, .bool false, .string e0], .bool false]) (by simp [results, Tryz.results71, go_sem, r0, r1, r2, r3, r4]) rfl ⟨rfl, ?_⟩
      | refine bodyPost_ret (v := .tuple #[.agg #[.bool neg, .string Wt, .string e0, .bool false, .string e0], .bool true]) (by simp [results, Tryz.results71, go_sem, r0, r1, r2, r3, r4]) rfl ⟨rfl, ?_⟩
    exact ((((X3.out.b.setCell (Nat.le_refl _) _).setCell (Nat.le_refl _) _).setCell (Nat.le_refl _) _).setCell (Nat.le_refl _) _).setCell (Nat.le_refl _) _

set_option maxRecDepth 100000 in
set_option maxHeartbeats 4000000 in
theorem cut_0o (s T1 T2 Wt : ByteArray) (neg bW : Bool) (w : World) (H1 : Hid (Cp w s T1 45 neg)) (H2 : Hid (Cd w T1 Wt T2)) (zW : Wt.toList.isEmpty = !bW) (H3 : Hid (Cp w T2 T2 46 false)) (zT : T2.toList.isEmpty = false) (y : Nat) (h0 : 0 < T2.size) (hxx : T2[0].toNat = y) (n1 : ((y : Int) == 101) = false) (n2 : ((y : Int) == 69) = false) :
    Calls Tryz.prog 71 #[.string s] w (CuAns neg Wt e0 false e0 (false) w) := by
  have HX := Lib.hid (Cx.new w)
  cases bW
  all_goals
    go_enter Tryz.func71, Tryz.ntmps71
    go_wp2_with fail
    refine (H1.out _ _ _ _ _ _ HX.out).mono ?_
    rintro e w1 ⟨rfl, hx⟩
    have X1 := Lib.hid (hx.put0 (.bool neg))
    have f0 := hx.marks.1
    have c0 := hx.cells.1
    clear hx
    go_wp2_with fail
    refine (H2.out _ _ _ _ _ _ X1.out).mono ?_
    rintro e w2 ⟨rfl, hx⟩
    have X2 := Lib.hid (hx.put1 (.string Wt))
    have f1 := hx.marks.2.1
    have c1 := hx.cells.2.1
    clear hx f0 c0
    go_wp2_with fail
    refine (H3.out _ _ _ _ _ _ X2.out).mono ?_
    rintro e w3 ⟨rfl, hx⟩
    clear f1 c1
    have X3 := Lib.hid hx
    clear hx
    obtain ⟨c0, c1, c2, c3, c4⟩ := X3.out.cells
    obtain ⟨r0, r1, r2, r3, r4⟩ := X3.out.rcells
    obtain ⟨m0, m1, m2, m3, m4⟩ := X3.out.rmarks
    go_wp2_with fail
    first
      | refine bodyPost_ret (v := .tuple #[.agg #[.bool neg, .string Wt, .string e0, .bool false, .string e0], .bool false]) (by simp [results, Tryz.results71, go_sem, r0, r1, r2, r3, r4]) rfl ⟨rfl, ?_⟩
      | refine bodyPost_ret (v := .tuple #[.agg #[.bool neg, .string Wt, .string e0, .bool false, .string e0], .bool true]) (by simp [results, Tryz.results71, go_sem, r0, r1, r2, r3, r4]) rfl ⟨rfl, ?_⟩
    exact ((((X3.out.b.setCell (Nat.le_refl _) _).setCell (Nat.le_refl _) _).setCell (Nat.le_refl _) _).setCell (Nat.le_refl _) _).setCell (Nat.le_refl _) _

set_option maxRecDepth 100000 in
set_option maxHeartbeats 4000000 in
theorem cut_0e (s T1 T2 Wt : ByteArray) (neg bW : Bool) (w : World) (H1 : Hid (Cp w s T1 45 neg)) (H2 : Hid (Cd w T1 Wt T2)) (zW : Wt.toList.isEmpty = !bW) (H3 : Hid (Cp w T2 T2 46 false)) (zT : T2.toList.isEmpty = false) (y : Nat) (h0 : 0 < T2.size) (hxx : T2[0].toNat = y) (hy : y = 101) (R5 R6 X R7 : ByteArray) (ng bX bZ : Bool) (s1 : ∀ W, (Instr.slice 9 (.string T2) (some (.int .i64 1)) none none).run Tryz.prog W = .ok (.string R5) W) (H5 : Hid (Cs w R5 R6 ng)) (H6 : Hid (Cd w R6 X R7)) (zX : X.toList.isEmpty = !bX) (zZ : R7.toList.isEmpty = bZ) :
    Calls Tryz.prog 71 #[.string s] w (CuAns neg Wt e0 ng X (bW && bX && bZ) w) := by
  have HX := Lib.hid (Cx.new w)
  subst hy
  cases bW <;> cases bX <;> cases bZ
  all_goals
    go_enter Tryz.func71, Tryz.ntmps71
    go_wp2_with fail
    refine (H1.out _ _ _ _ _ _ HX.out).mono ?_
    rintro e w1 ⟨rfl, hx⟩
    have X1 := Lib.hid (hx.put0 (.bool neg))
    have f0 := hx.marks.1
    have c0 := hx.cells.1
    clear hx
    go_wp2_with fail
    refine (H2.out _ _ _ _ _ _ X1.out).mono ?_
    rintro e w2 ⟨rfl, hx⟩
    have X2 := Lib.hid (hx.put1 (.string Wt))
    have f1 := hx.marks.2.1
    have c1 := hx.cells.2.1
    clear hx f0 c0
    go_wp2_with fail
    refine (H3.out _ _ _ _ _ _ X2.out).mono ?_
    rintro e w3 ⟨rfl, hx⟩
    clear f1 c1
    have X3 := Lib.hid hx
    clear hx
    go_wp2_with fail
    refine (H5.out _ _ _ _ _ _ X3.out).mono ?_
    rintro e w5 ⟨rfl, hx⟩
    skip
    have X5 := Lib.hid (hx.put3 (.bool ng))
    have f3 := hx.marks.2.2.2.1
    have c3 := hx.cells.2.2.2.1
    clear hx
    go_wp2_with fail
    refine (H6.out _ _ _ _ _ _ X5.out).mono ?_
    rintro e w6 ⟨rfl, hx⟩
    clear f3 c3
    have X6 := Lib.hid (hx.put4 (.string X))
    have f4 := hx.marks.2.2.2.2
    obtain ⟨c0, c1, c2, c3, c4⟩ := hx.cells
    obtain ⟨r0, r1, r2, r3, r4⟩ := hx.rcells
    obtain ⟨m0, m1, m2, m3, m4⟩ := hx.rmarks
    clear hx
    go_wp2_with fail
    first
      | refine bodyPost_ret (v := .tuple #[.agg #[.bool neg, .string Wt, .string e0, .bool ng, .string X], .bool false]) (by simp [results, Tryz.results71, go_sem, r0, r1, r2, r3, r4]) rfl ⟨rfl, ?_⟩
      | refine bodyPost_ret (v := .tuple #[.agg #[.bool neg, .string Wt, .string e0, .bool ng, .string X], .bool true]) (by simp [results, Tryz.results71, go_sem, r0, r1, r2, r3, r4]) rfl ⟨rfl, ?_⟩
    exact ((((X6.out.b.setCell (Nat.le_refl _) _).setCell (Nat.le_refl _) _).setCell (Nat.le_refl _) _).setCell (Nat.le_refl _) _).setCell (Nat.le_refl _) _

set_option maxRecDepth 100000 in
set_option maxHeartbeats 4000000 in
theorem cut_0E (s T1 T2 Wt : ByteArray) (neg bW : Bool) (w : World) (H1 : Hid (Cp w s T1 45 neg)) (H2 : Hid (Cd w T1 Wt T2)) (zW : Wt.toList.isEmpty = !bW) (H3 : Hid (Cp w T2 T2 46 false)) (zT : T2.toList.isEmpty = false) (y : Nat) (h0 : 0 < T2.size) (hxx : T2[0].toNat = y) (hy : y = 69) (R5 R6 X R7 : ByteArray) (ng bX bZ : Bool) (s1 : ∀ W, (Instr.slice 9 (.string T2) (some (.int .i64 1)) none none).run Tryz.prog W = .ok (.string R5) W) (H5 : Hid (Cs w R5 R6 ng)) (H6 : Hid (Cd w R6 X R7)) (zX : X.toList.isEmpty = !bX) (zZ : R7.toList.isEmpty = bZ) :
    Calls Tryz.prog 71 #[.string s] w (CuAns neg Wt e0 ng X (bW && bX && bZ) w) := by
  have HX := Lib.hid (Cx.new w)
  subst hy
  cases bW <;> cases bX <;> cases bZ
  all_goals
    go_enter Tryz.func71, Tryz.ntmps71
    go_wp2_with fail
    refine (H1.out _ _ _ _ _ _ HX.out).mono ?_
    rintro e w1 ⟨rfl, hx⟩
    have X1 := Lib.hid (hx.put0 (.bool neg))
    have f0 := hx.marks.1
    have c0 := hx.cells.1
    clear hx
    go_wp2_with fail
    refine (H2.out _ _ _ _ _ _ X1.out).mono ?_
    rintro e w2 ⟨rfl, hx⟩
    have X2 := Lib.hid (hx.put1 (.string Wt))
    have f1 := hx.marks.2.1
    have c1 := hx.cells.2.1
    clear hx f0 c0
    go_wp2_with fail
    refine (H3.out _ _ _ _ _ _ X2.out).mono ?_
    rintro e w3 ⟨rfl, hx⟩
    clear f1 c1
    have X3 := Lib.hid hx
    clear hx
    go_wp2_with fail
    refine (H5.out _ _ _ _ _ _ X3.out).mono ?_
    rintro e w5 ⟨rfl, hx⟩
    skip
    have X5 := Lib.hid (hx.put3 (.bool ng))
    have f3 := hx.marks.2.2.2.1
    have c3 := hx.cells.2.2.2.1
    clear hx
    go_wp2_with fail
    refine (H6.out _ _ _ _ _ _ X5.out).mono ?_
    rintro e w6 ⟨rfl, hx⟩
    clear f3 c3
    have X6 := Lib.hid (hx.put4 (.string X))
    have f4 := hx.marks.2.2.2.2
    obtain ⟨c0, c1, c2, c3, c4⟩ := hx.cells
    obtain ⟨r0, r1, r2, r3, r4⟩ := hx.rcells
    obtain ⟨m0, m1, m2, m3, m4⟩ := hx.rmarks
    clear hx
    go_wp2_with fail
    first
      | refine bodyPost_ret (v := .tuple #[.agg #[.bool neg, .string Wt, .string e0, .bool ng, .string X], .bool false]) (by simp [results, Tryz.results71, go_sem, r0, r1, r2, r3, r4]) rfl ⟨rfl, ?_⟩
      | refine bodyPost_ret (v := .tuple #[.agg #[.bool neg, .string Wt, .string e0, .bool ng, .string X], .bool true]) (by simp [results, Tryz.results71, go_sem, r0, r1, r2, r3, r4]) rfl ⟨rfl, ?_⟩
    exact ((((X6.out.b.setCell (Nat.le_refl _) _).setCell (Nat.le_refl _) _).setCell (Nat.le_refl _) _).setCell (Nat.le_refl _) _).setCell (Nat.le_refl _) _

set_option maxRecDepth 100000 in
set_option maxHeartbeats 4000000 in
theorem cut_1z (s T1 T2 Wt : ByteArray) (neg bW : Bool) (w : World) (H1 : Hid (Cp w s T1 45 neg)) (H2 : Hid (Cd w T1 Wt T2)) (zW : Wt.toList.isEmpty = !bW) (T3 F T4 : ByteArray) (bF : Bool) (H3 : Hid (Cp w T2 T3 46 true)) (H4 : Hid (Cd w T3 F T4)) (zF : F.toList.isEmpty = !bF) (zT : T4.toList.isEmpty = true) :
    Calls Tryz.prog 71 #[.string s] w (CuAns neg Wt F false e0 (bW && bF) w) := by
  have HX := Lib.hid (Cx.new w)
  cases bW <;> cases bF
  all_goals
    go_enter Tryz.func71, Tryz.ntmps71
    go_wp2_with fail
    refine (H1.out _ _ _ _ _ _ HX.out).mono ?_
    rintro e w1 ⟨rfl, hx⟩
    have X1 := Lib.hid (hx.put0 (.bool neg))
    have f0 := hx.marks.1
    have c0 := hx.cells.1
    clear hx
    go_wp2_with fail
    refine (H2.out _ _ _ _ _ _ X1.out).mono ?_
    rintro e w2 ⟨rfl, hx⟩
    have X2 := Lib.hid (hx.put1 (.string Wt))
    have f1 := hx.marks.2.1
    have c1 := hx.cells.2.1
    clear hx f0 c0
    go_wp2_with fail
    refine (H3.out _ _ _ _ _ _ X2.out).mono ?_
    rintro e w3 ⟨rfl, hx⟩
    clear f1 c1
    have X3 := Lib.hid hx
    clear hx
    go_wp2_with fail
    refine (H4.out _ _ _ _ _ _ X3.out).mono ?_
    rintro e w4 ⟨rfl, hx⟩
    have X4 := Lib.hid (hx.put2 (.string F))
    have f2 := hx.marks.2.2.1
    have c2 := hx.cells.2.2.1
    obtain ⟨c0, c1, _, c3, c4⟩ := hx.cells
    obtain ⟨r0, r1, r2, r3, r4⟩ := hx.rcells
    obtain ⟨m0, m1, m2, m3, m4⟩ := hx.rmarks
    clear hx
    go_wp2_with fail
    first
      | refine bodyPost_ret (v := .tuple #[.agg #[.bool neg, .string Wt, .string F, .bool false, .string e0], .bool false]) (by simp [results, Tryz.results71, go_sem, r0, r1, r2, r3, r4]) rfl ⟨rfl, ?_⟩
      | refine bodyPost_ret (v := .tuple #[.agg #[.bool neg, .string Wt, .string F, .bool false, .string e0], .bool true]) (by simp [results, Tryz.results71, go_sem, r0, r1, r2, r3, r4]) rfl ⟨rfl, ?_⟩
    exact ((((X4.out.b.setCell (Nat.le_refl _) _).setCell (Nat.le_refl _) _).setCell (Nat.le_refl _) _).setCell (Nat.le_refl _) _).setCell (Nat.le_refl _) _

set_option maxRecDepth 100000 in
set_option maxHeartbeats 4000000 in
theorem cut_1o (s T1 T2 Wt : ByteArray) (neg bW : Bool) (w : World) (H1 : Hid (Cp w s T1 45 neg)) (H2 : Hid (Cd w T1 Wt T2)) (zW : Wt.toList.isEmpty = !bW) (T3 F T4 : ByteArray) (bF : Bool) (H3 : Hid (Cp w T2 T3 46 true)) (H4 : Hid (Cd w T3 F T4)) (zF : F.toList.isEmpty = !bF) (zT : T4.toList.isEmpty = false) (y : Nat) (h0 : 0 < T4.size) (hxx : T4[0].toNat = y) (n1 : ((y : Int) == 101) = false) (n2 : ((y : Int) == 69) = false) :
    Calls Tryz.prog 71 #[.string s] w (CuAns neg Wt F false e0 (false) w) := by
  have HX := Lib.hid (Cx.new w)
  cases bW <;> cases bF
  all_goals
    go_enter Tryz.func71, Tryz.ntmps71
    go_wp2_with fail
    refine (H1.out _ _ _ _ _ _ HX.out).mono ?_
    rintro e w1 ⟨rfl, hx⟩
    have X1 := Lib.hid (hx.put0 (.bool neg))
    have f0 := hx.marks.1
    have c0 := hx.cells.1
    clear hx
    go_wp2_with fail
    refine (H2.out _ _ _ _ _ _ X1.out).mono ?_
    rintro e w2 ⟨rfl, hx⟩
    have X2 := Lib.hid (hx.put1 (.string Wt))
    have f1 := hx.marks.2.1
    have c1 := hx.cells.2.1
    clear hx f0 c0
    go_wp2_with fail
    refine (H3.out _ _ _ _ _ _ X2.out).mono ?_
    rintro e w3 ⟨rfl, hx⟩
    clear f1 c1
    have X3 := Lib.hid hx
    clear hx
    go_wp2_with fail
    refine (H4.out _ _ _ _ _ _ X3.out).mono ?_
    rintro e w4 ⟨rfl, hx⟩
    have X4 := Lib.hid (hx.put2 (.string F))
    have f2 := hx.marks.2.2.1
    have c2 := hx.cells.2.2.1
    obtain ⟨c0, c1, _, c3, c4⟩ := hx.cells
    obtain ⟨r0, r1, r2, r3, r4⟩ := hx.rcells
    obtain ⟨m0, m1, m2, m3, m4⟩ := hx.rmarks
    clear hx
    go_wp2_with fail
    first
      | refine bodyPost_ret (v := .tuple #[.agg #[.bool neg, .string Wt, .string F, .bool false, .string e0], .bool false]) (by simp [results, Tryz.results71, go_sem, r0, r1, r2, r3, r4]) rfl ⟨rfl, ?_⟩
      | refine bodyPost_ret (v := .tuple #[.agg #[.bool neg, .string Wt, .string F, .bool false, .string e0], .bool true]) (by simp [results, Tryz.results71, go_sem, r0, r1, r2, r3, r4]) rfl ⟨rfl, ?_⟩
    exact ((((X4.out.b.setCell (Nat.le_refl _) _).setCell (Nat.le_refl _) _).setCell (Nat.le_refl _) _).setCell (Nat.le_refl _) _).setCell (Nat.le_refl _) _

set_option maxRecDepth 100000 in
set_option maxHeartbeats 4000000 in
theorem cut_1e (s T1 T2 Wt : ByteArray) (neg bW : Bool) (w : World) (H1 : Hid (Cp w s T1 45 neg)) (H2 : Hid (Cd w T1 Wt T2)) (zW : Wt.toList.isEmpty = !bW) (T3 F T4 : ByteArray) (bF : Bool) (H3 : Hid (Cp w T2 T3 46 true)) (H4 : Hid (Cd w T3 F T4)) (zF : F.toList.isEmpty = !bF) (zT : T4.toList.isEmpty = false) (y : Nat) (h0 : 0 < T4.size) (hxx : T4[0].toNat = y) (hy : y = 101) (R5 R6 X R7 : ByteArray) (ng bX bZ : Bool) (s1 : ∀ W, (Instr.slice 9 (.string T4) (some (.int .i64 1)) none none).run Tryz.prog W = .ok (.string R5) W) (H5 : Hid (Cs w R5 R6 ng)) (H6 : Hid (Cd w R6 X R7)) (zX : X.toList.isEmpty = !bX) (zZ : R7.toList.isEmpty = bZ) :
    Calls Tryz.prog 71 #[.string s] w (CuAns neg Wt F ng X (bW && bF && bX && bZ) w) := by
  have HX := Lib.hid (Cx.new w)
  subst hy
  cases bW <;> cases bF <;> cases bX <;> cases bZ
  all_goals
    go_enter Tryz.func71, Tryz.ntmps71
    go_wp2_with fail
    refine (H1.out _ _ _ _ _ _ HX.out).mono ?_
    rintro e w1 ⟨rfl, hx⟩
    have X1 := Lib.hid (hx.put0 (.bool neg))
    have f0 := hx.marks.1
    have c0 := hx.cells.1
    clear hx
    go_wp2_with fail
    refine (H2.out _ _ _ _ _ _ X1.out).mono ?_
    rintro e w2 ⟨rfl, hx⟩
    have X2 := Lib.hid (hx.put1 (.string Wt))
    have f1 := hx.marks.2.1
    have c1 := hx.cells.2.1
    clear hx f0 c0
    go_wp2_with fail
    refine (H3.out _ _ _ _ _ _ X2.out).mono ?_
    rintro e w3 ⟨rfl, hx⟩
    clear f1 c1
    have X3 := Lib.hid hx
    clear hx
    go_wp2_with fail
    refine (H4.out _ _ _ _ _ _ X3.out).mono ?_
    rintro e w4 ⟨rfl, hx⟩
    have X4 := Lib.hid (hx.put2 (.string F))
    have f2 := hx.marks.2.2.1
    have c2 := hx.cells.2.2.1
    clear hx
    go_wp2_with fail
    refine (H5.out _ _ _ _ _ _ X4.out).mono ?_
    rintro e w5 ⟨rfl, hx⟩
    clear f2 c2
    have X5 := Lib.hid (hx.put3 (.bool ng))
    have f3 := hx.marks.2.2.2.1
    have c3 := hx.cells.2.2.2.1
    clear hx
    go_wp2_with fail
    refine (H6.out _ _ _ _ _ _ X5.out).mono ?_
    rintro e w6 ⟨rfl, hx⟩
    clear f3 c3
    have X6 := Lib.hid (hx.put4 (.string X))
    have f4 := hx.marks.2.2.2.2
    obtain ⟨c0, c1, c2, c3, c4⟩ := hx.cells
    obtain ⟨r0, r1, r2, r3, r4⟩ := hx.rcells
    obtain ⟨m0, m1, m2, m3, m4⟩ := hx.rmarks
    clear hx
    go_wp2_with fail
    first
      | refine bodyPost_ret (v := .tuple #[.agg #[.bool neg, .string Wt, .string F, .bool ng, .string X], .bool false]) (by simp [results, Tryz.results71, go_sem, r0, r1, r2, r3, r4]) rfl ⟨rfl, ?_⟩
      | refine bodyPost_ret (v := .tuple #[.agg #[.bool neg, .string Wt, .string F, .bool ng, .string X], .bool true]) (by simp [results, Tryz.results71, go_sem, r0, r1, r2, r3, r4]) rfl ⟨rfl, ?_⟩
    exact ((((X6.out.b.setCell (Nat.le_refl _) _).setCell (Nat.le_refl _) _).setCell (Nat.le_refl _) _).setCell (Nat.le_refl _) _).setCell (Nat.le_refl _) _

set_option maxRecDepth 100000 in
set_option maxHeartbeats 4000000 in
theorem cut_1E (s T1 T2 Wt : ByteArray) (neg bW : Bool) (w : World) (H1 : Hid (Cp w s T1 45 neg)) (H2 : Hid (Cd w T1 Wt T2)) (zW : Wt.toList.isEmpty = !bW) (T3 F T4 : ByteArray) (bF : Bool) (H3 : Hid (Cp w T2 T3 46 true)) (H4 : Hid (Cd w T3 F T4)) (zF : F.toList.isEmpty = !bF) (zT : T4.toList.isEmpty = false) (y : Nat) (h0 : 0 < T4.size) (hxx : T4[0].toNat = y) (hy : y = 69) (R5 R6 X R7 : ByteArray) (ng bX bZ : Bool) (s1 : ∀ W, (Instr.slice 9 (.string T4) (some (.int .i64 1)) none none).run Tryz.prog W = .ok (.string R5) W) (H5 : Hid (Cs w R5 R6 ng)) (H6 : Hid (Cd w R6 X R7)) (zX : X.toList.isEmpty = !bX) (zZ : R7.toList.isEmpty = bZ) :
    Calls Tryz.prog 71 #[.string s] w (CuAns neg Wt F ng X (bW && bF && bX && bZ) w) := by
  have HX := Lib.hid (Cx.new w)
  subst hy
  cases bW <;> cases bF <;> cases bX <;> cases bZ
  all_goals
    go_enter Tryz.func71, Tryz.ntmps71
    go_wp2_with fail
    refine (H1.out _ _ _ _ _ _ HX.out).mono ?_
    rintro e w1 ⟨rfl, hx⟩
    have X1 := Lib.hid (hx.put0 (.bool neg))
    have f0 := hx.marks.1
    have c0 := hx.cells.1
    clear hx
    go_wp2_with fail
    refine (H2.out _ _ _ _ _ _ X1.out).mono ?_
    rintro e w2 ⟨rfl, hx⟩
    have X2 := Lib.hid (hx.put1 (.string Wt))
    have f1 := hx.marks.2.1
    have c1 := hx.cells.2.1
    clear hx f0 c0
    go_wp2_with fail
    refine (H3.out _ _ _ _ _ _ X2.out).mono ?_
    rintro e w3 ⟨rfl, hx⟩
    clear f1 c1
    have X3 := Lib.hid hx
    clear hx
    go_wp2_with fail
    refine (H4.out _ _ _ _ _ _ X3.out).mono ?_
    rintro e w4 ⟨rfl, hx⟩
    have X4 := Lib.hid (hx.put2 (.string F))
    have f2 := hx.marks.2.2.1
    have c2 := hx.cells.2.2.1
    clear hx
    go_wp2_with fail
    refine (H5.out _ _ _ _ _ _ X4.out).mono ?_
    rintro e w5 ⟨rfl, hx⟩
    clear f2 c2
    have X5 := Lib.hid (hx.put3 (.bool ng))
    have f3 := hx.marks.2.2.2.1
    have c3 := hx.cells.2.2.2.1
    clear hx
    go_wp2_with fail
    refine (H6.out _ _ _ _ _ _ X5.out).mono ?_
    rintro e w6 ⟨rfl, hx⟩
    clear f3 c3
    have X6 := Lib.hid (hx.put4 (.string X))
    have f4 := hx.marks.2.2.2.2
    obtain ⟨c0, c1, c2, c3, c4⟩ := hx.cells
    obtain ⟨r0, r1, r2, r3, r4⟩ := hx.rcells
    obtain ⟨m0, m1, m2, m3, m4⟩ := hx.rmarks
    clear hx
    go_wp2_with fail
    first
      | refine bodyPost_ret (v := .tuple #[.agg #[.bool neg, .string Wt, .string F, .bool ng, .string X], .bool false]) (by simp [results, Tryz.results71, go_sem, r0, r1, r2, r3, r4]) rfl ⟨rfl, ?_⟩
      | refine bodyPost_ret (v := .tuple #[.agg #[.bool neg, .string Wt, .string F, .bool ng, .string X], .bool true]) (by simp [results, Tryz.results71, go_sem, r0, r1, r2, r3, r4]) rfl ⟨rfl, ?_⟩
    exact ((((X6.out.b.setCell (Nat.le_refl _) _).setCell (Nat.le_refl _) _).setCell (Nat.le_refl _) _).setCell (Nat.le_refl _) _).setCell (Nat.le_refl _) _

end Go.Proofs.YtljbnnpmnoejeaaGreatDoor.nn
namespace Go.Proofs.YtljbnnpmnoejeaaGreatDoor.nn
open Go.RowKit

theorem sfx_empty {s : ByteArray} {a : Nat} (ha : a ≤ s.size) : (sfx s a).toList.isEmpty = decide (a = s.size) := by
  rw [empty_of, sfx_size]
  congr 1
  exact propext (by omega)
theorem cutT_empty {s : ByteArray} {a k : Nat} (h : a + k ≤ s.size) : (cutT s a (a + k)).toList.isEmpty = !decide (0 < k) := by
  rw [empty_of, cutT_size h, ← decide_not]
  congr 1
  exact propext (by omega)
theorem cp_of (w : World) (s : ByteArray) (a : Nat) (c : UInt8) (hs : s.size ≤ maxLen) (ha : a ≤ s.size) : Hid (Cp w (sfx s a) (sfx s (if at_ s a c.toNat then a + 1 else a)) c (at_ s a c.toNat)) := Lib.hid fun a1 a2 a3 a4 a5 W hx => by
  refine (cutPrefix_at s a c W hs ha).mono ?_
  rintro e w' ⟨rfl, rfl⟩
  exact ⟨rfl, hx⟩
theorem cd_of (w : World) (s : ByteArray) (a : Nat) (hs : s.size ≤ maxLen) (ha : a ≤ s.size) : Hid (Cd w (sfx s a) (cutT s a (a + rn s a)) (sfx s (a + rn s a))) := Lib.hid fun a1 a2 a3 a4 a5 W hx => by
  refine (cutDigits_at s a W hs ha).mono ?_
  rintro e w' ⟨rfl, j, rfl⟩
  exact ⟨rfl, hx.on (drew_below (Below.refl _ _) j)⟩
theorem cs_of (w : World) (s : ByteArray) (a : Nat) (hs : s.size ≤ maxLen) (ha : a ≤ s.size) : Hid (Cs w (sfx s a) (sfx s (sgA s a)) (sgB s a)) := Lib.hid fun a1 a2 a3 a4 a5 W hx => by
  refine (cutSign_at s a W hs ha).mono ?_
  rintro e w' ⟨rfl, rfl⟩
  exact ⟨rfl, hx⟩
theorem first_of {s : ByteArray} {a : Nat} (ha : a < s.size) : ∃ h : 0 < (sfx s a).size, (sfx s a)[0].toNat = bt s a := by
  have h1 : 0 < (sfx s a).size := by rw [sfx_size]; omega
  refine ⟨h1, ?_⟩
  rw [← bt_at h1, bt_sfx (by omega), Nat.add_zero]
theorem at_no {s : ByteArray} {a c : Nat} (ha : a < s.size) (h : at_ s a c = false) : ((bt s a : Int) == (c : Int)) = false := by
  have := of_decide_eq_false h
  rw [beq_eq_false_iff_ne]
  intro g
  exact this ⟨ha, by omega⟩

theorem cut_any (s : ByteArray) (w : World) (hs : s.size ≤ maxLen) :
    Calls Tryz.prog 71 #[.string s] w (CuAns (at_ s 0 45) (cW s) (cF s) (cN s) (cX s) (cOk s) w) := by
  have a1 := cA_le s
  have a2 := cB_le s
  have a3 := cC_le s
  have a4 := cD_le s
  have H1 := cp_of w s 0 45 hs (Nat.zero_le _)
  rw [sfx_zero, show (45 : UInt8).toNat = 45 from rfl] at H1
  have e1 : (if at_ s 0 45 = true then 0 + 1 else 0) = cA s := by unfold cA; split <;> rfl
  rw [e1] at H1
  have H2 := cd_of w s (cA s) hs a1
  rw [show cA s + rn s (cA s) = cB s from rfl, show cutT s (cA s) (cB s) = cW s from rfl] at H2
  have zW : (cW s).toList.isEmpty = !decide (0 < rn s (cA s)) := cutT_empty a2
  have H3 := cp_of w s (cB s) 46 hs a2
  rw [show (46 : UInt8).toNat = 46 from rfl] at H3
  have e3 : at_ s (cB s) 46 = cDot s := rfl
  rw [e3] at H3
  have s1 : cE s = true → ∀ W, (Instr.slice 9 (.string (sfx s (cC s))) (some (.int .i64 1)) none none).run Tryz.prog W = .ok (.string (sfx s (cC s + 1))) W := fun hE W => by
    have h1 := cE_lt hE
    rw [run_slice_string_l (w := W) (s := sfx s (cC s)) (ht := Tryz.underlying9) (h0 := by omega) (h1 := by rw [sfx_size]; omega), show (1 : Int).toNat = 1 from rfl, sfx_sfx h1]
  have hE5 : cE s = true → Hid (Cs w (sfx s (cC s + 1)) (sfx s (cS s)) (sgB s (cC s + 1))) := fun hE => cs_of w s _ hs (cE_lt hE)
  have hE6 : cE s = true → Hid (Cd w (sfx s (cS s)) (cX s) (sfx s (cD s))) ∧ (cX s).toList.isEmpty = (!decide (0 < rn s (cS s))) := fun hE => by
    have h1 := (sgA_le (cE_lt hE)).2
    have h2 := cd_of w s (cS s) hs h1
    have h3 : cX s = cutT s (cS s) (cD s) := if_pos hE
    have h4 : cD s = cS s + rn s (cS s) := if_pos hE
    rw [h3, h4]
    have := rn_le s (cS s)
    exact ⟨h2, cutT_empty (by unfold cS at *; omega)⟩
  have zZ : (sfx s (cD s)).toList.isEmpty = decide (cD s = s.size) := sfx_empty a4
  have cas : cE s = true → cC s < s.size ∧ (bt s (cC s) = 101 ∨ bt s (cC s) = 69) := fun hE => by
    unfold cE at hE
    rw [Bool.or_eq_true] at hE
    rcases hE with h | h
    · exact ⟨(at_le h).1, .inl (at_le h).2⟩
    · exact ⟨(at_le h).1, .inr (at_le h).2⟩
  have eE : cE s = false → cN s = false ∧ cX s = e0 ∧ cD s = cC s := fun h => ⟨if_neg (by rw [h]; decide), if_neg (by rw [h]; decide), if_neg (by rw [h]; decide)⟩
  have tE : cE s = true → cN s = sgB s (cC s + 1) := fun h => if_pos h
  cases hd : cDot s with
  | false =>
    rw [hd, if_neg (by decide)] at H3
    have eC : cC s = cB s := if_neg (by rw [hd]; decide)
    have eF : cF s = e0 := if_neg (by rw [hd]; decide)
    rw [eF]
    cases hE : cE s with
    | false =>
      obtain ⟨n1, n2, n3⟩ := eE hE
      rw [n1, n2]
      by_cases hz : cB s = s.size
      · have := cut_0z s _ _ _ _ _ w H1 H2 zW H3 (by rw [sfx_empty a2]; exact decide_eq_true hz)
        have hok : cOk s = decide (0 < rn s (cA s)) := by unfold cOk; rw [hd, hE, n3, eC, decide_eq_true hz]; simp
        rw [hok]
        exact this
      · have hlt : cB s < s.size := by omega
        obtain ⟨h0, h1⟩ := first_of hlt
        have hE' := hE
        unfold cE at hE'
        rw [Bool.or_eq_false_iff, eC] at hE'
        have := cut_0o s _ _ _ _ _ w H1 H2 zW H3 (by rw [sfx_empty a2]; exact decide_eq_false hz) _ h0 h1 (at_no hlt hE'.1) (at_no hlt hE'.2)
        have hok : cOk s = false := by unfold cOk; rw [n3, eC, decide_eq_false hz]; simp
        rw [hok]
        exact this
    | true =>
      obtain ⟨hlt, hy⟩ := cas hE
      obtain ⟨h6, zX⟩ := hE6 hE
      obtain ⟨h0, h1⟩ := first_of (show cB s < s.size by rw [← eC]; exact hlt)
      have hok : cOk s = (decide (0 < rn s (cA s)) && decide (0 < rn s (cS s)) && decide (cD s = s.size)) := by unfold cOk; rw [hd, hE]; simp
      rw [hok, tE hE]
      have hne : (sfx s (cB s)).toList.isEmpty = false := by rw [sfx_empty a2, ← eC]; exact decide_eq_false (by omega)
      have h5 := hE5 hE
      have sl := s1 hE
      rw [eC] at hy sl h5 ⊢
      rcases hy with hy | hy
      · exact cut_0e s _ _ _ _ _ w H1 H2 zW H3 hne _ h0 h1 hy _ _ _ _ _ _ _ sl h5 h6 zX zZ
      · exact cut_0E s _ _ _ _ _ w H1 H2 zW H3 hne _ h0 h1 hy _ _ _ _ _ _ _ sl h5 h6 zX zZ
  | true =>
    rw [hd, if_pos rfl] at H3
    have hb1 := a3.2 hd
    have eC : cC s = cB s + 1 + rn s (cB s + 1) := if_pos hd
    have eF : cF s = cutT s (cB s + 1) (cC s) := if_pos hd
    have H4 := cd_of w s (cB s + 1) hs hb1
    rw [← eC] at H4
    have zF : (cutT s (cB s + 1) (cC s)).toList.isEmpty = !decide (0 < rn s (cB s + 1)) := by
      have := a3.1
      rw [eC] at this ⊢
      exact cutT_empty this
    rw [← eF] at H4 zF
    cases hE : cE s with
    | false =>
      obtain ⟨n1, n2, n3⟩ := eE hE
      rw [n1, n2]
      by_cases hz : cC s = s.size
      · have := cut_1z s _ _ _ _ _ w H1 H2 zW _ _ _ _ H3 H4 zF (by rw [sfx_empty a3.1]; exact decide_eq_true hz)
        have hok : cOk s = (decide (0 < rn s (cA s)) && decide (0 < rn s (cB s + 1))) := by unfold cOk; rw [hd, hE, n3, decide_eq_true hz]; simp
        rw [hok]
        exact this
      · have hlt : cC s < s.size := by have := a3.1; omega
        obtain ⟨h0, h1⟩ := first_of hlt
        have hE' := hE
        unfold cE at hE'
        rw [Bool.or_eq_false_iff] at hE'
        have := cut_1o s _ _ _ _ _ w H1 H2 zW _ _ _ _ H3 H4 zF (by rw [sfx_empty a3.1]; exact decide_eq_false hz) _ h0 h1 (at_no hlt hE'.1) (at_no hlt hE'.2)
        have hok : cOk s = false := by unfold cOk; rw [n3, decide_eq_false hz]; simp
        rw [hok]
        exact this
    | true =>
      obtain ⟨hlt, hy⟩ := cas hE
      obtain ⟨h6, zX⟩ := hE6 hE
      obtain ⟨h0, h1⟩ := first_of hlt
      have hok : cOk s = (decide (0 < rn s (cA s)) && decide (0 < rn s (cB s + 1)) && decide (0 < rn s (cS s)) && decide (cD s = s.size)) := by unfold cOk; rw [hd, hE]; simp
      rw [hok, tE hE]
      have hne : (sfx s (cC s)).toList.isEmpty = false := by rw [sfx_empty a3.1]; exact decide_eq_false (by omega)
      have h5 := hE5 hE
      have sl := s1 hE
      rcases hy with hy | hy
      · exact cut_1e s _ _ _ _ _ w H1 H2 zW _ _ _ _ H3 H4 zF hne _ h0 h1 hy _ _ _ _ _ _ _ sl h5 h6 zX zZ
      · exact cut_1E s _ _ _ _ _ w H1 H2 zW _ _ _ _ H3 H4 zF hne _ h0 h1 hy _ _ _ _ _ _ _ sl h5 h6 zX zZ
end Go.Proofs.YtljbnnpmnoejeaaGreatDoor.nn
namespace Go.Proofs.YtljbnnpmnoejeaaGreatDoor.nn
open Go.RowKit

/-! what a text says -/
def scD (s : ByteArray) : ByteArray := cW s ++ cF s
def scZ (s : ByteArray) : Int := plZ (cN s) (cX s) (cF s)
def scLong (s : ByteArray) : Prop := 800 < (cW s).size + (cF s).size ∨ 4 < (cX s).size
def scNeg (s : ByteArray) : Bool := at_ s 0 45
def scN (s : ByteArray) : Nat := dv (bt (scD s)) (scD s).size
def ScIs (s : ByteArray) (V E : Nat) : Prop :=
  (cOk s = false ∧ V = 0 ∧ E = 4) ∨ (cOk s = true ∧ scLong s ∧ V = 0 ∧ E = 2) ∨
  (cOk s = true ∧ ¬ scLong s ∧ (scN s = 0 ∨ scZ s < -2000) ∧ V = sB (scNeg s) ∧ E = 0) ∨
  (cOk s = true ∧ ¬ scLong s ∧ scN s ≠ 0 ∧ 2000 < scZ s ∧ V = 0 ∧ E = 8) ∨
  (cOk s = true ∧ ¬ scLong s ∧ scN s ≠ 0 ∧ -2000 ≤ scZ s ∧ scZ s ≤ 2000 ∧ ∃ b, RN (scD s) (scZ s) b ∧ V = roV (scNeg s) b ∧ E = roE b)
theorem ScIs.uniq {s : ByteArray} {V E V' E' : Nat} (h : ScIs s V E) (h' : ScIs s V' E') : V = V' ∧ E = E' := by
  rcases h with ⟨a1, a2, a3⟩ | ⟨a1, a2, a3, a4⟩ | ⟨a1, a2, a3, a4, a5⟩ | ⟨a1, a2, a3, a4, a5, a6⟩ | ⟨a1, a2, a3, a4, a5, b, hb, a6, a7⟩ <;>
  rcases h' with ⟨b1, b2, b3⟩ | ⟨b1, b2, b3, b4⟩ | ⟨b1, b2, b3, b4, b5⟩ | ⟨b1, b2, b3, b4, b5, b6⟩ | ⟨b1, b2, b3, b4, b5, b', hb', b6, b7⟩
  all_goals first
    | exact ⟨a2.trans b2.symm, a3.trans b3.symm⟩
    | exact ⟨a3.trans b3.symm, a4.trans b4.symm⟩
    | exact ⟨a4.trans b4.symm, a5.trans b5.symm⟩
    | exact ⟨a5.trans b5.symm, a6.trans b6.symm⟩
    | (have e := near_uniq (rY_pos _) hb hb'; subst e; exact ⟨a6.trans b6.symm, a7.trans b7.symm⟩)
    | (exfalso; rw [a1] at b1; cases b1; done)
    | (exfalso; exact a2 b2)
    | (exfalso; exact b2 a2)
    | (exfalso; omega)

/-- the digits are digits, few, and at least one -/
theorem sc_facts {s : ByteArray} (hok : cOk s = true) (hl : ¬ scLong s) : (scD s).size ≤ 800 ∧ 0 < (scD s).size ∧ dgs (bt (scD s)) (scD s).size = true ∧ (cX s).size ≤ 4 ∧ dgs (bt (cX s)) (cX s).size = true ∧ (cF s).size ≤ 800 ∧ (cW s).size ≤ 800 ∧ (scD s).size = (cW s).size + (cF s).size := by
  have a1 := cA_le s
  have a2 := cB_le s
  have a3 := cC_le s
  have a4 := cD_le s
  unfold scLong at hl
  have hw : (cW s).size = rn s (cA s) := by unfold cW; rw [cutT_size a2]; unfold cB; omega
  have hpos : 0 < rn s (cA s) := by
    unfold cOk at hok
    simp only [Bool.and_eq_true, decide_eq_true_eq] at hok
    exact hok.1.1.1
  have dW : dgs (bt (cW s)) (cW s).size = true := by rw [hw]; exact rn_dgs a1
  have dF : dgs (bt (cF s)) (cF s).size = true := by
    unfold cF
    cases h : cDot s with
    | false => rw [if_neg (by decide)]; rfl
    | true =>
      rw [if_pos rfl]
      have e : cC s = cB s + 1 + rn s (cB s + 1) := if_pos h
      have := rn_dgs (a3.2 h)
      rw [← e] at this
      rw [cutT_size a3.1, e, Nat.add_sub_cancel_left, ← e]
      exact this
  have dX : dgs (bt (cX s)) (cX s).size = true := by
    unfold cX
    cases h : cE s with
    | false => rw [if_neg (by decide)]; rfl
    | true =>
      rw [if_pos rfl]
      have e : cD s = cS s + rn s (cS s) := if_pos h
      have h1 := (sgA_le (cE_lt h)).2
      have := rn_dgs h1
      have e2 : sgA s (cC s + 1) = cS s := rfl
      rw [e2, ← e] at this
      rw [cutT_size a4, e, Nat.add_sub_cancel_left, ← e]
      exact this
  have hsz2 : (scD s).size = (cW s).size + (cF s).size := ByteArray.size_append
  have := (app_num dW dF).1
  exact ⟨by omega, by omega, this, by omega, dX, by omega, by omega, hsz2⟩
theorem dw_nil (p : UInt8 → Bool) (l : List UInt8) : l.dropWhile p = [] ↔ ∀ x ∈ l, p x = true := by
  induction l with
  | nil => simp
  | cons a l ih =>
    rw [List.dropWhile_cons]
    cases h : p a with
    | true => rw [if_pos rfl, ih]; simp [h]
    | false => rw [if_neg (by decide)]; simp [h]
theorem dw_head (p : UInt8 → Bool) (l : List UInt8) (h : ∀ x ∈ l.dropWhile p, p x = true) : l.dropWhile p = [] := by
  induction l with
  | nil => rfl
  | cons a l ih =>
    rw [List.dropWhile_cons] at h ⊢
    cases hp : p a with
    | true => rw [hp, if_pos rfl] at h; rw [if_pos rfl]; exact ih h
    | false =>
      rw [hp, if_neg (by decide)] at h
      have := h a List.mem_cons_self
      rw [hp] at this
      cases this
/-- trimmed of 0, nothing is left just of 0 -/
theorem trim_zero {d : ByteArray} (hd : dgs (bt d) d.size = true) : (⟨(Lib.trimB d.data.toList 48).toArray⟩ : ByteArray).toList.isEmpty = decide (dv (bt d) d.size = 0) := by
  have key : Lib.trimB d.data.toList 48 = [] ↔ ∀ i, i < d.size → bt d i = 48 := by
    have hmem : (∀ x ∈ d.data.toList, x = 48) ↔ ∀ i, i < d.size → bt d i = 48 := by
      constructor
      · intro h i hi
        rw [bt_at hi]
        have : d[i] ∈ d.data.toList := by
          show d.data[i] ∈ d.data.toList
          simp
        rw [h _ this]
        rfl
      · intro h x hx
        obtain ⟨i, hi, rfl⟩ := List.mem_iff_getElem.1 hx
        have h2 : i < d.size := by simpa using hi
        have := h i h2
        rw [bt_at h2] at this
        exact UInt8.toNat_inj.1 this
    rw [← hmem]
    unfold Lib.trimB Lib.trimLeftB Lib.trimRightB
    constructor
    · intro h
      have h2 := (dw_nil _ _).1 h
      have h3 : d.data.toList.reverse.dropWhile (· == 48) = [] := dw_head _ _ (fun x hx => h2 x (List.mem_reverse.2 hx))
      intro x hx
      exact beq_iff_eq.1 ((dw_nil _ _).1 h3 x (List.mem_reverse.2 hx))
    · intro h
      have h3 : d.data.toList.reverse.dropWhile (· == 48) = [] := (dw_nil _ _).2 (fun x hx => beq_iff_eq.2 (h x (List.mem_reverse.1 hx)))
      rw [h3]
      rfl
  have dvz : dv (bt d) d.size = 0 ↔ ∀ i, i < d.size → bt d i = 48 := by
    have : ∀ n, n ≤ d.size → (dv (bt d) n = 0 ↔ ∀ i, i < n → bt d i = 48) := by
      intro n
      induction n with
      | zero => exact fun _ => ⟨fun _ i hi => by omega, fun _ => rfl⟩
      | succ n ih =>
        intro hn
        have hdn := dgs_at hd (show n < d.size by omega)
        rw [dv]
        constructor
        · intro h i hi
          by_cases e : i = n
          · subst e; omega
          · exact (ih (by omega)).1 (by omega) i (by omega)
        · intro h
          have h1 := (ih (by omega)).2 (fun i hi => h i (by omega))
          have h2 := h n (by omega)
          omega
    exact this _ (Nat.le_refl _)
  rw [ByteArray.toList_eq]
  by_cases h : dv (bt d) d.size = 0
  · rw [decide_eq_true h]
    have h2 := key.2 (dvz.1 h)
    show (Lib.trimB d.data.toList 48).isEmpty = true
    rw [h2]; rfl
  · rw [decide_eq_false h]
    show (Lib.trimB d.data.toList 48).isEmpty = false
    cases hl : Lib.trimB d.data.toList 48 with
    | nil => exact absurd (dvz.2 (key.1 hl)) h
    | cons a l => rfl
end Go.Proofs.YtljbnnpmnoejeaaGreatDoor.nn
namespace Go.Proofs.YtljbnnpmnoejeaaGreatDoor.nn
open Go.RowKit

def ScAns (s : ByteArray) (w : World) (e : Ending) (w' : World) : Prop := ∃ V E : Nat, e = .returned (.tuple #[.int .u64 (V : Int), .int .i64 (E : Int)]) ∧ ScIs s V E ∧ Below w.heap.size w w'
/-- the boxed parts of a call, at block g -/
structure Bq (w : World) (g : Nat) (neg : Bool) (Wt F : ByteArray) (ng : Bool) (X : ByteArray) (W : World) : Prop where
  c0 : W.cell? ⟨g, 0, none⟩ = some (.bool neg)
  c1 : W.cell? ⟨g, 1, none⟩ = some (.string Wt)
  c2 : W.cell? ⟨g, 2, none⟩ = some (.string F)
  c3 : W.cell? ⟨g, 3, none⟩ = some (.bool ng)
  c4 : W.cell? ⟨g, 4, none⟩ = some (.string X)
  b : Below w.heap.size w W
  z : g < W.heap.size
theorem Bq.on {w W W' : World} {g : Nat} {neg ng : Bool} {Wt F X : ByteArray} (h : Bq w g neg Wt F ng X W) (hB : Below W.heap.size W W') : Bq w g neg Wt F ng X W' :=
  ⟨(hB.cell (p := ⟨_, _, none⟩) h.z).trans h.c0, (hB.cell (p := ⟨_, _, none⟩) h.z).trans h.c1, (hB.cell (p := ⟨_, _, none⟩) h.z).trans h.c2, (hB.cell (p := ⟨_, _, none⟩) h.z).trans h.c3, (hB.cell (p := ⟨_, _, none⟩) h.z).trans h.c4, h.b.trans (hB.mono h.b.size), Nat.lt_of_lt_of_le h.z hB.size⟩
theorem Bq.drew {w W : World} {g : Nat} {neg ng : Bool} {Wt F X : ByteArray} (h : Bq w g neg Wt F ng X W) : Bq w g neg Wt F ng X W.drew := h.on (Below.drew (Below.refl _ _))
theorem Bq.new {w w1 : World} (neg ng : Bool) (Wt F X : ByteArray) (T : TypeId) (hb : Below w.heap.size w w1) : Bq w w1.heap.size neg Wt F ng X (w1.alloc (.cells #[.bool neg, .string Wt, .string F, .bool ng, .string X] T)) :=
  ⟨by simp, by simp, by simp, by simp, by simp, hb.alloc hb.size _, by simp⟩
theorem Bq.all {w W : World} {g : Nat} {neg ng : Bool} {Wt F X : ByteArray} (h : Bq w g neg Wt F ng X W) : W.cell? ⟨g, 0, none⟩ = some (.bool neg) ∧ W.cell? ⟨g, 1, none⟩ = some (.string Wt) ∧ W.cell? ⟨g, 2, none⟩ = some (.string F) ∧ W.cell? ⟨g, 3, none⟩ = some (.bool ng) ∧ W.cell? ⟨g, 4, none⟩ = some (.string X) ∧ Bq w g neg Wt F ng X W := ⟨h.c0, h.c1, h.c2, h.c3, h.c4, h⟩

set_option maxRecDepth 100000 in
set_option maxHeartbeats 2000000 in
theorem scan_no (s : ByteArray) (w : World) (hs : s.size ≤ 140737488351232) (hok : cOk s = false) :
    Calls Tryz.prog 36 #[.string s] w (ScAns s w) := by
  have HC := Lib.hid (cut_any s w (by unfold maxLen; omega))
  rw [hok] at HC
  have HS := Lib.hid (show ScIs s 0 4 from .inl ⟨hok, rfl, rfl⟩)
  unfold CuAns at HC
  clear hok hs
  obtain ⟨neg, hneg⟩ : ∃ b, at_ s 0 45 = b := ⟨_, rfl⟩
  rw [hneg] at HC
  clear hneg
  go_enter Tryz.func36, Tryz.ntmps36
  go_wp2_with fail
  refine HC.out.mono ?_
  rintro e w1 ⟨rfl, hb1⟩
  have HB := Lib.hid (fun T => (Bq.new neg (cN s) (cW s) (cF s) (cX s) T hb1).b)
  clear hb1
  go_wp2_with fail
  go_ret2
  exact ⟨0, 4, rfl, HS.out, HB.out _⟩

set_option maxRecDepth 100000 in
set_option maxHeartbeats 2000000 in
theorem scan_long (s : ByteArray) (w : World) (hs : s.size ≤ 140737488351232) (hok : cOk s = true) (hl : scLong s) :
    Calls Tryz.prog 36 #[.string s] w (ScAns s w) := by
  have HC := Lib.hid (cut_any s w (by unfold maxLen; omega))
  rw [hok] at HC
  have HS := Lib.hid (show ScIs s 0 2 from .inr (.inl ⟨hok, hl, rfl, rfl⟩))
  have b1 : (cW s).size ≤ s.size := by unfold cW cutT; rw [ByteArray.size_extract]; omega
  have b2 : (cF s).size ≤ s.size := by
    unfold cF
    split
    · unfold cutT; rw [ByteArray.size_extract]; omega
    · exact Nat.zero_le _
  unfold CuAns at HC
  unfold scLong at hl
  clear hok
  obtain ⟨neg, hneg⟩ : ∃ b, at_ s 0 45 = b := ⟨_, rfl⟩
  obtain ⟨Wt, hW⟩ : ∃ b, cW s = b := ⟨_, rfl⟩
  obtain ⟨F, hF⟩ : ∃ b, cF s = b := ⟨_, rfl⟩
  obtain ⟨ng, hng⟩ : ∃ b, cN s = b := ⟨_, rfl⟩
  obtain ⟨X, hX⟩ : ∃ b, cX s = b := ⟨_, rfl⟩
  rw [hneg, hW, hF, hng, hX] at HC
  rw [hW, hF, hX] at hl
  rw [hW] at b1
  rw [hF] at b2
  clear hneg hW hF hng hX
  by_cases c1 : 800 < Wt.size + F.size
  · clear hl
    go_enter Tryz.func36, Tryz.ntmps36
    go_wp2_with fail
    refine HC.out.mono ?_
    rintro e w1 ⟨rfl, hb1⟩
    have HB := Lib.hid (fun T => (Bq.new neg ng Wt F X T hb1).b)
    clear hb1
    go_wp2_with fail
    go_ret2
    exact ⟨0, 2, rfl, HS.out, HB.out _⟩
  · have c2 : 4 < X.size := by omega
    clear hl
    go_enter Tryz.func36, Tryz.ntmps36
    go_wp2_with fail
    refine HC.out.mono ?_
    rintro e w1 ⟨rfl, hb1⟩
    have HB := Lib.hid (fun T => (Bq.new neg ng Wt F X T hb1).b)
    clear hb1
    go_wp2_with fail
    go_ret2
    exact ⟨0, 2, rfl, HS.out, HB.out _⟩

set_option maxRecDepth 100000 in
set_option maxHeartbeats 4000000 in
theorem scan_go (s : ByteArray) (w : World) (hs : s.size ≤ 140737488351232) (hok : cOk s = true) (hl : ¬ scLong s) :
    Calls Tryz.prog 36 #[.string s] w (ScAns s w) := by
  have HC := Lib.hid (cut_any s w (by unfold maxLen; omega))
  rw [hok] at HC
  obtain ⟨t1, t2, t3, t4, t5, t6, t7, t8⟩ := sc_facts hok hl
  have hz : ∃ z, scZ s = z := ⟨_, rfl⟩
  obtain ⟨z, hz⟩ := hz
  have hzb : -2000000 ≤ z ∧ z ≤ 2000000 := by
    rw [← hz]
    unfold scZ plZ
    have := dv_lt t5
    have h2 : 10 ^ (cX s).size ≤ 10 ^ 4 := Nat.pow_le_pow_right (by decide) t4
    have h3 : (10 : Nat) ^ 4 = 10000 := by decide
    split <;> omega
  have HPL : Hid (∀ W, Calls Tryz.prog 72 #[pV (at_ s 0 45) (cW s) (cF s) (cN s) (cX s)] W fun e w' => e = .returned (.int .i64 z) ∧ Below W.heap.size W w') := Lib.hid fun W => by
    have := place_any (at_ s 0 45) (cW s) (cF s) (cN s) (cX s) W t4 (by omega) t5
    have e : plZ (cN s) (cX s) (cF s) = z := hz
    rw [e] at this
    exact this
  have HTR := Lib.hid (fun W => Tryz.strings_Trim_one (scD s) 48 (by decide) W (by omega))
  have hte := trim_zero t3
  obtain ⟨N, hN⟩ : ∃ N, dv (bt (scD s)) (scD s).size = N := ⟨_, rfl⟩
  obtain ⟨TT, hTT⟩ : ∃ T : ByteArray, (⟨(Lib.trimB (scD s).data.toList 48).toArray⟩ : ByteArray) = T := ⟨_, rfl⟩
  rw [hTT] at HTR hte
  rw [hN] at hte
  have hN2 : scN s = N := hN
  have A1 : Hid (N = 0 ∨ z < -2000 → ScIs s (sB (at_ s 0 45)) 0) := Lib.hid fun h => .inr (.inr (.inl ⟨hok, hl, by rw [hN2, hz]; exact h, rfl, rfl⟩))
  have A2 : Hid (N ≠ 0 → 2000 < z → ScIs s 0 8) := Lib.hid fun h g => .inr (.inr (.inr (.inl ⟨hok, hl, by rw [hN2]; exact h, by rw [hz]; exact g, rfl, rfl⟩)))
  have A3 : Hid (N ≠ 0 → -2000 ≤ z → z ≤ 2000 → ∃ b, (∀ neg W, Calls Tryz.prog 75 #[.bool neg, .string (scD s), .int .i64 z] W (RoAns (roV neg b) (roE b) W)) ∧ ScIs s (roV (at_ s 0 45) b) (roE b)) := Lib.hid fun h g1 g2 => by
    obtain ⟨b, hb⟩ := RN_ex (scD s) z
    refine ⟨b, fun neg W => round_yes neg (scD s) z b W ?_ hb, ?_⟩
    · unfold rfE
      rw [if_neg (by omega), t3, decide_eq_true t2, if_neg (by decide), if_neg (by omega)]
    · exact .inr (.inr (.inr (.inr ⟨hok, hl, by rw [hN2]; exact h, by rw [hz]; exact g1, by rw [hz]; exact g2, b, by rw [hz]; exact hb, rfl, rfl⟩)))
  have hDs : scD s = cW s ++ cF s := rfl
  rw [hDs] at HTR A3
  unfold CuAns at HC
  unfold pV at HPL
  have hw8 : (cW s).size + (cF s).size ≤ 800 := by omega
  obtain ⟨neg, hneg⟩ : ∃ b, at_ s 0 45 = b := ⟨_, rfl⟩
  obtain ⟨Wt, hW⟩ : ∃ b, cW s = b := ⟨_, rfl⟩
  obtain ⟨F, hF⟩ : ∃ b, cF s = b := ⟨_, rfl⟩
  obtain ⟨ng, hng⟩ : ∃ b, cN s = b := ⟨_, rfl⟩
  obtain ⟨X, hX⟩ : ∃ b, cX s = b := ⟨_, rfl⟩
  rw [hneg, hW, hF, hng, hX] at HC HPL
  rw [hW, hF] at hw8 HTR A3
  rw [hneg] at A1 A3
  rw [hX] at t4
  have t4' : X.size ≤ 4 := t4
  obtain ⟨z1, z2⟩ := hzb
  have FS := Lib.hid (fun W => fsigned_any neg 0 W (by decide))
  rw [Nat.add_zero] at FS
  clear hok hl t1 t2 t3 t5 t6 t7 t8 hz hN hTT hN2 hDs hneg hW hF hng hX t4 hs
  go_enter Tryz.func36, Tryz.ntmps36
  go_wp2_with fail
  refine HC.out.mono ?_
  rintro e w1 ⟨rfl, hb1⟩
  have HB := Lib.hid (Bq.new neg ng Wt F X 104 hb1)
  clear hb1
  go_wp2_with fail
  obtain ⟨W2, hW2⟩ : ∃ W2, w1.alloc (.cells #[.bool neg, .string Wt, .string F, .bool ng, .string X] 104) = W2 := ⟨_, rfl⟩
  rw [hW2] at HB ⊢
  obtain ⟨g, hg⟩ : ∃ g, w1.heap.size = g := ⟨_, rfl⟩
  rw [hg] at HB ⊢
  clear hW2 hg
  have HX := Lib.hid (fun W (h : Bq w g neg Wt F ng X W) => h.all)
  have HI := Lib.hid (fun W (h : Bq w g neg Wt F ng X W) => (HPL.out W).mono fun e w' ⟨he, hb⟩ => (⟨he, h.on hb⟩ : e = Ending.returned (.int .i64 z) ∧ Bq w g neg Wt F ng X w'))
  have HT := Lib.hid (fun W (h : Bq w g neg Wt F ng X W) => (HTR.out W).mono fun e w' ⟨he, hb⟩ => (⟨he, by rcases hb with rfl | rfl; exact h; exact h.drew⟩ : e = Ending.returned (.string TT) ∧ Bq w g neg Wt F ng X w'))
  have hk0 := HB.out.drew
  have hx0 := HX.out _ hk0
  have hsum : ¬ 9223372036854775807 < Wt.size + F.size := by omega
  go_region_held3 (fun W => W.cell? ⟨g, 0, none⟩ = some (.bool neg) ∧ W.cell? ⟨g, 1, none⟩ = some (.string Wt) ∧ W.cell? ⟨g, 2, none⟩ = some (.string F) ∧ W.cell? ⟨g, 3, none⟩ = some (.bool ng) ∧ W.cell? ⟨g, 4, none⟩ = some (.string X) ∧ Bq w g neg Wt F ng X W) (first | exact HX.out _ ‹_› | exact HX.out _ (And.right ‹_›))
    (first | (go_at_call 72; refine (HI.out _ ?_).mono ?_; (first | assumption | exact And.right ‹_›); rintro e w' ⟨rfl, hk5⟩))
  clear hx0
  by_cases hN0 : N = 0
  · rw [decide_eq_true hN0] at hte
    have AA := Lib.hid (A1.out (.inl hN0))
    clear hN0 A1 A2 A3
    go_wp2_with fail
    refine (HT.out _ hk5).mono ?_
    rintro e w4 ⟨rfl, hk6⟩
    have H6 := Lib.hid hk6
    have c0 := hk6.c0
    clear hk6 hk5
    go_wp2_with fail
    refine (FS.out _).mono ?_
    rintro e w' ⟨rfl, rfl⟩
    go_wp2_with fail
    go_ret2
    exact ⟨_, 0, rfl, AA.out, H6.out.b⟩
  · rw [decide_eq_false hN0] at hte
    by_cases k1 : z < -2000
    · have AA := Lib.hid (A1.out (.inr k1))
      clear hN0 A1 A2 A3
      go_wp2_with fail
      refine (HT.out _ hk5).mono ?_
      rintro e w4 ⟨rfl, hk6⟩
      have H6 := Lib.hid hk6
      have c0 := hk6.c0
      clear hk6 hk5
      go_wp2_with fail
      refine (FS.out _).mono ?_
      rintro e w' ⟨rfl, rfl⟩
      go_wp2_with fail
      go_ret2
      exact ⟨_, 0, rfl, AA.out, H6.out.b⟩
    · by_cases k2 : 2000 < z
      · have AA := Lib.hid (A2.out hN0 k2)
        clear hN0 A1 A2 A3
        go_wp2_with fail
        refine (HT.out _ hk5).mono ?_
        rintro e w4 ⟨rfl, hk6⟩
        have H6 := Lib.hid hk6
        have c0 := hk6.c0
        clear hk6 hk5
        go_wp2_with fail
        go_ret2
        exact ⟨0, 8, rfl, AA.out, H6.out.b⟩
      · obtain ⟨b, hr, hsc⟩ := A3.out hN0 (by omega) (by omega)
        have RR := Lib.hid (fun W => hr neg W)
        have AA := Lib.hid hsc
        unfold RoAns at RR
        clear hN0 A1 A2 A3 hr hsc
        go_wp2_with fail
        refine (HT.out _ hk5).mono ?_
        rintro e w4 ⟨rfl, hk6⟩
        have H6 := Lib.hid hk6
        have c0 := hk6.c0
        clear hk6 hk5
        go_wp2_with fail
        refine (RR.out _).mono ?_
        rintro e w5 ⟨rfl, hb5⟩
        have B5 := Lib.hid (H6.out.b.trans (hb5.mono H6.out.b.size))
        clear hb5
        go_wp2_with fail
        go_ret2
        exact ⟨_, _, rfl, AA.out, B5.out⟩
theorem scan_any (s : ByteArray) (w : World) (hs : s.size ≤ 140737488351232) : Calls Tryz.prog 36 #[.string s] w (ScAns s w) := by
  cases hok : cOk s with
  | false => exact scan_no s w hs hok
  | true =>
    by_cases hl : scLong s
    · exact scan_long s w hs hok hl
    · exact scan_go s w hs hok hl
end Go.Proofs.YtljbnnpmnoejeaaGreatDoor.nn
