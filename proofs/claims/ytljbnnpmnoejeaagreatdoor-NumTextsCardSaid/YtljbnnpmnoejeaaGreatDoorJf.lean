/- Joined texts, what is wanted of them: Bytes, Chunks, DecNum, Builder, FormatUint, Repeat, Digits, DivSmall, RefDivSmall, RefDigits. -/
import Derived.Test.YtljbnnpmnoejeaaGreatDoorProg
import Derived.Laws.BytesArg
import Derived.Deep.LoopGhost
import Derived.Lib.ItoaNum
import Derived.Test.YtljbnnpmnoejeaaGreatDoorShelf
import Derived.Lib.Builder
import Derived.Lib.AppendStr
import Derived.Lib.UnsafeStr
import Derived.WalkKit
import Derived.Lib.Hide
import Derived.Laws.Externs
import Derived.Below
import Derived.Lib.AppendIntMem
import Derived.Lib.LaidTab
import Derived.Deep.WholeRow
import Derived.Test.YtljbnnpmnoejeaaGreatDoorJa
import Derived.Test.YtljbnnpmnoejeaaGreatDoorJb
namespace Go.Proofs.YtljbnnpmnoejeaaGreatDoor.nn
open Go.RowKit

/-- the text of n bytes f -/
def pc (f : Nat → Nat) (n : Nat) : ByteArray := strOfNums ((List.range n).map fun i => (f i : Int))
theorem pc_size (f : Nat → Nat) (n : Nat) : (pc f n).size = n := by unfold pc; rw [strOfNums_size]; simp
theorem bt_pc {f : Nat → Nat} {n i : Nat} (h : i < n) (hf : f i < 256) : bt (pc f n) i = f i := by
  have h2 : i < (pc f n).size := by rw [pc_size]; exact h
  rw [bt_at h2]
  show ((pc f n).data[i]).toNat = f i
  have : (pc f n).data[i]? = some (UInt8.ofNat (f i)) := by
    unfold pc strOfNums
    simp [h]
  have e : (pc f n).data[i] = UInt8.ofNat (f i) := by
    have h3 := Array.getElem?_eq_getElem (xs := (pc f n).data) (i := i) h2
    rw [this] at h3
    injection h3 with h3
    exact h3.symm
  rw [e, UInt8.toNat_ofNat']
  omega

/-- a text made of a slice of bytes, nil or not -/
theorem conv_row (A : Option Addr) (n c : Nat) (f : Nat → Nat) (w : World) (h : Rd w .u8 A n f) :
    (convert 41 9 (.slice A n c)).run Tryz.prog w = .ok (.string (pc f n)) w := by
  by_cases h0 : 0 < n
  · obtain ⟨b, off, rfl, _, hc⟩ := h h0
    exact run_convert_bytes_arg w 41 5 Tryz.underlying41 Tryz.underlying5 b off n c _ (by simp) (fun i hi => by
      rw [hc i hi]
      simp [hi]) 9 Tryz.underlying9
  · obtain rfl : n = 0 := by omega
    have e : pc f 0 = ByteArray.empty := rfl
    rw [e]
    cases A with
    | none => exact run_convert_bytes_nil w 41 5 Tryz.underlying41 Tryz.underlying5 0 c 9 Tryz.underlying9
    | some a =>
      rw [run_convert_bytes_string w 41 9 5 (some a) 0 c Tryz.underlying41 Tryz.underlying5 Tryz.underlying9]
      exact run_bytesToString w a 0 c [] (run_loadCells_list (P := Tryz.prog) w a [] (fun j v hv => by simp at hv))
end Go.Proofs.YtljbnnpmnoejeaaGreatDoor.nn
namespace Go.Proofs.YtljbnnpmnoejeaaGreatDoor.nn
open Go.RowKit

def D19 : Nat := 10000000000000000000
theorem d19_pos : 0 < D19 := by decide
theorem d19_lt : D19 < W64 := by decide

/-- i chunks of V are in the row v, what is left stands in block g -/
structure DcRel (base B2 : Nat) (w wr : World) (g : Nat) (V i n : Nat) (f : Nat → Nat) (cur : Array Value) (v : Value) (ch : Nat → Nat) : Prop where
  blk : Bk wr g 22 cur
  ints : Ints cur .u64 0 n f
  lt : Lt W64 f n
  trm : Trm f n
  val : sm W64 f n = V / D19 ^ i
  own : wr.ownsRow B2 22 1 v i (vl .u64 ch i)
  chs : ∀ j, j < i → ch j = V / D19 ^ j % D19
  one : 1 ≤ i
  last : i = 1 ∨ V / D19 ^ (i - 1) ≠ 0
  below : Below base w wr
  gB : g < B2
  bB : base ≤ g
  sz : B2 ≤ wr.heap.size

theorem div_pow (V D i : Nat) : V / D ^ (i + 1) = V / D ^ i / D := by rw [Nat.pow_succ, Nat.div_div_eq_div_mul]
theorem pow_div_lt {x k : Nat} (h : x < 2 ^ (k + 1)) : x / D19 < 2 ^ k := by
  rw [Nat.div_lt_iff_lt_mul d19_pos]
  have : 2 ^ k * 2 ≤ 2 ^ k * D19 := Nat.mul_le_mul_left _ (by decide)
  rw [Nat.pow_succ] at h
  omega

/-- the chunks: a row of its own with k of them -/
def Chunks (base : Nat) (w w' : World) (e : Ending) (V M : Nat) : Prop :=
  ∃ v k ch, e = .returned v ∧ w'.ownsRow base 22 1 v k (vl .u64 ch k) ∧ (∀ j, j < k → ch j = V / D19 ^ j % D19) ∧ 1 ≤ k ∧ k ≤ M ∧ (k = 1 ∨ V / D19 ^ (k - 1) ≠ 0) ∧ V / D19 ^ k = 0 ∧ Below base w w'

set_option maxRecDepth 100000 in
set_option maxHeartbeats 2000000 in
theorem chunks_any (base g n c : Nat) (cur : Array Value) (f : Nat → Nat) (w : World) (hb : Bk w g 22 cur) (hi : Ints cur .u64 0 n f) (lf : Lt W64 f n) (hbg : base ≤ g) (hn : n ≤ c) (hc : c ≤ 1000000) :
    Calls Tryz.prog 88 #[.slice (some ⟨g, 0, none⟩) n c] w fun e w' => Chunks base w w' e (sm W64 f n) (64 * n + 1) := by
  obtain ⟨i0, hi0, hz0, hz1, hz2⟩ := info_parts info_u64
  have hdv := divideBy_any g 0 n c 22 cur f D19 w hb hi lf d19_pos d19_lt (by unfold maxLen; omega)
  obtain ⟨V, hV⟩ : ∃ V, sm W64 f n = V := ⟨_, rfl⟩
  have hVk : V < 2 ^ (64 * n) := by
    rw [← hV, Nat.pow_mul 2 64 n]
    exact sm_lt lf
  rw [hV]
  have HDV : Hid (Calls Tryz.prog 134 #[.slice (some ⟨g, 0, none⟩) n c, .int .u64 10000000000000000000] w fun e' w' => DivEnd w w' g 22 cur 0 n f D19 e') := Lib.hid hdv
  have HV := Lib.hid hV
  have hgw := hb.lt
  have HB := Lib.hid (Below.refl base w)
  clear hdv hV hb hi lf
  go_enter Tryz.func88, Tryz.ntmps88
  go_wp2_with fail
  refine HDV.out.mono ?_
  rintro e w1 ⟨r, f1, cur1, rfl, hr, hw1, hi1, lf1, hv1⟩
  have hsz1 : w1.heap.size = w.heap.size := hw1.hsize
  have HS1 := Lib.hid hsz1
  clear hsz1
  have HW1 := Lib.hid hw1
  have hrd := hi1.rd hw1.blk
  have HTR := fun o => trim64_any (some ⟨g, 0, none⟩) n c f1 (w1.alloc o) (hrd.alloc o) hn (by unfold maxLen; omega)
  have HTT := Lib.hid HTR
  have hq : sm W64 f1 n = V / D19 ^ 1 ∧ r = V / D19 ^ 0 % D19 := by
    rw [HV.out] at hv1
    rw [Nat.pow_one, Nat.pow_zero, Nat.div_one, hv1]
    refine ⟨?_, ?_⟩
    · rw [Nat.add_comm, Nat.add_mul_div_left _ _ d19_pos, Nat.div_eq_of_lt hr, Nat.zero_add]
    · rw [Nat.add_comm, Nat.add_mul_mod_self_left, Nat.mod_eq_of_lt hr]
  have HQ := Lib.hid hq
  have HI1 := Lib.hid (And.intro hi1 lf1)
  have hr64 : r ≤ 18446744073709551615 := by have : D19 = 10000000000000000000 := rfl; omega
  clear hw1 hi1 lf1 hv1 hr hrd HTR hq
  go_wp2_with fail
  refine (HTT.out _).mono ?_
  rintro e w2 ⟨rfl, rfl⟩
  have h0 : DcRel base w.heap.size w (w1.alloc (.cells #[.int .u64 (r : Int)] 22)) g V 1 (tr f1 n) f1 cur1 (.slice (some ⟨w1.heap.size, 0, none⟩) 1 1) (fun _ => r) := by
    have hle := tr_le f1 n
    refine ⟨?_, HI1.out.1.mono hle, HI1.out.2.mono hle, tr_trm _ _, by rw [sm_tr]; exact HQ.out.1, ?_, fun j hj => ?_, Nat.le_refl _, .inl rfl, ?_, hgw, hbg, ?_⟩
    · exact (Below.heap_alloc _ _ _ (by rw [HS1.out]; exact hgw)).trans HW1.out.blk
    · have := World.ownsRow_lit (base := w.heap.size) (e := 22) (size := 1) w1 #[.int .u64 (r : Int)] 1 (by rw [HS1.out]; exact Nat.le_refl _) (by simp [maxLen]) rfl
      exact this
    · obtain rfl : j = 0 := by omega
      exact HQ.out.2
    · exact ((Below.refl base w).grown HW1.out.grown (by omega) (fun k hk => by injection hk with hk; subst hk; exact hbg)).alloc (by rw [HS1.out]; omega) _
    · have := HS1.out; simp; omega
  have H0 := Lib.hid h0
  have HVK : Hid (V / D19 ^ 1 < 2 ^ (64 * n)) := Lib.hid (Nat.lt_of_le_of_lt (Nat.div_le_self _ _) hVk)
  have hle0 := tr_le f1 n
  have hnn : tr f1 n ≤ n := hle0
  obtain ⟨n1, hn1⟩ : ∃ n1, tr f1 n = n1 := ⟨_, rfl⟩
  rw [hn1] at H0 hnn
  rw [hn1]
  clear h0 hVk hn1 hle0
  go_wp2_with fail
  go_loopg [0, 3] (64 * n) (fun k s0 s3 wr => ∃ (i n' : Nat) (f' : Nat → Nat) (cur' : Array Value) (v : Value) (ch : Nat → Nat), n' ≤ n ∧ s0 = .slice (some ⟨g, 0, none⟩) n' c ∧ v = s3 ∧ i + k ≤ 64 * n + 1 ∧ Hid (DcRel base w.heap.size w wr g V i n' f' cur' v ch) ∧ Hid (V / D19 ^ i < 2 ^ k))
  case atStart => exact ⟨1, n1, f1, cur1, _, _, hnn, rfl, rfl, by omega, H0, HVK⟩
  case round =>
    obtain ⟨i, n', f', cur', v, ch, hn', rfl, rfl, hik, hh, hk⟩ := hrel
    by_cases h0 : 0 < n'
    · have hpos : 0 < V / D19 ^ i := by rw [← hh.out.val]; exact sm_pos (by decide) hh.out.trm (by omega)
      obtain ⟨k', rfl⟩ : ∃ k', gk = k' + 1 := by
        rcases Nat.eq_zero_or_pos gk with h | h
        · have h2 := hk.out; rw [h, Nat.pow_zero] at h2; omega
        · exact ⟨gk - 1, by omega⟩
      have hdv := divideBy_any g 0 n' c 22 cur' f' D19 wr hh.out.blk hh.out.ints hh.out.lt d19_pos d19_lt (by unfold maxLen; omega)
      have HDV2 : Hid (Calls Tryz.prog 134 #[.slice (some ⟨g, 0, none⟩) n' c, .int .u64 10000000000000000000] wr fun e' w' => DivEnd wr w' g 22 cur' 0 n' f' D19 e') := Lib.hid hdv
      have HPOS := Lib.hid hpos
      clear hdv hpos
      go_wp2_with fail
      refine HDV2.out.mono ?_
      rintro e w3 ⟨r3, f3, cur3, rfl, hr3, hw3, hi3, lf3, hv3⟩
      have hq3 : sm W64 f3 n' = V / D19 ^ (i + 1) ∧ r3 = V / D19 ^ i % D19 := by
        rw [hh.out.val] at hv3
        rw [div_pow, hv3]
        refine ⟨?_, ?_⟩
        · rw [Nat.add_comm, Nat.add_mul_div_left _ _ d19_pos, Nat.div_eq_of_lt hr3, Nat.zero_add]
        · rw [Nat.add_comm, Nat.add_mul_mod_self_left, Nat.mod_eq_of_lt hr3]
      have hown3 : w3.ownsRow w.heap.size 22 1 v i (vl .u64 ch i) := hh.out.own.kept (row := some g) hw3.grown (by
        cases ho : v.ownBlock with
        | none => exact .inl rfl
        | some b => exact .inr (fun e => by injection e with e; subst e; have := (hh.out.own.lt _ ho).1; have := hh.out.gB; omega))
      have hb3 : Below base w w3 := hh.out.below.grown hw3.grown (Nat.le_trans (Nat.le_trans hh.out.bB (Nat.le_of_lt hgw)) hh.out.sz) (fun k hk => by injection hk with hk; subst hk; exact hh.out.bB)
      have hs3 : w.heap.size ≤ w3.heap.size := by rw [hw3.hsize]; exact hh.out.sz
      have hr64' : r3 ≤ 18446744073709551615 := by have : D19 = 10000000000000000000 := rfl; omega
      have HQ3 := Lib.hid (And.intro hq3 (And.intro hr3 (And.intro hw3 (And.intro hi3 lf3))))
      have HB3 := Lib.hid hb3
      clear hq3 hr3 hw3 hi3 lf3 hv3 hb3
      go_wp2_with (at_builtin; refine wpList_app rfl (.tmp 14) (.tmp 17) _ rfl w.heap.size 22 i0 _ 8 Tryz.underlying95 hi0 hz0 hz1 hz2 rfl .u64 _ i ch rfl (hown3.alloc _) _ 1 1 (fun _ => r3) rfl (rd_one _ .u64 r3 _) (by unfold maxLen; omega) (by omega) (by simp; omega) ?_; intro v4 w4 hown4 hb4)
      have hblk4 : Bk w4 g 22 cur3 := Bk.below ((Below.heap_alloc _ _ _ HQ3.out.2.2.1.blk.lt).trans HQ3.out.2.2.1.blk) hb4 hh.out.gB
      have hT4 := trim64_any (some ⟨g, 0, none⟩) n' c f3 w4 (HQ3.out.2.2.2.1.rd hblk4) (by omega) (by unfold maxLen; omega)
      have HT4 := Lib.hid hT4
      have hsz4 : w.heap.size ≤ w4.heap.size := Nat.le_trans (by simp; omega) hb4.size
      have hle3 := tr_le f3 n'
      have hDc : DcRel base w.heap.size w w4 g V (i + 1) (tr f3 n') f3 cur3 v4 (jn ch i (fun _ => r3)) := by
        refine ⟨hblk4, HQ3.out.2.2.2.1.mono hle3, HQ3.out.2.2.2.2.mono hle3, tr_trm _ _, by rw [sm_tr]; exact HQ3.out.1.1, hown4, fun j hj => ?_, by omega, .inr ?_, ?_, hh.out.gB, hh.out.bB, hsz4⟩
        · by_cases e : j < i
          · rw [jn_lo _ _ e]; exact hh.out.chs j e
          · obtain rfl : j = i := by omega
            have e2 := jn_hi ch (fun _ => r3) j 0
            rw [Nat.add_zero] at e2
            rw [e2]
            exact HQ3.out.1.2
        · rw [Nat.add_sub_cancel]
          have := HPOS.out
          omega
        · exact (HB3.out.alloc (by omega) _).trans (hb4.mono (by omega))
      have HDC := Lib.hid hDc
      have HK2 : Hid (V / D19 ^ (i + 1) < 2 ^ k') := Lib.hid (by rw [div_pow]; exact pow_div_lt hk.out)
      obtain ⟨n3, hn3⟩ : ∃ n3, tr f3 n' = n3 := ⟨_, rfl⟩
      rw [hn3] at HDC HT4 hle3
      clear hblk4 hT4 hDc hn3 hown4 hb4 hown3
      go_wp2_with fail
      refine HT4.out.mono ?_
      rintro e w5 ⟨rfl, rfl⟩
      go_wp2_with fail
      go_roundg k'
      case measure => omega
      case rel => exact ⟨i + 1, n3, f3, cur3, v4, _, by omega, rfl, rfl, by omega, HDC, HK2⟩
    · obtain rfl : n' = 0 := by omega
      have HE : Hid (V / D19 ^ i = 0) := Lib.hid (by rw [← hh.out.val]; rfl)
      go_wp2_with fail
      go_ret
      exact ⟨v, i, ch, rfl, ⟨hh.out.own.1, hh.out.own.2.imp id (fun ⟨g', cap, cr, h1, h2, h3⟩ => ⟨g', cap, cr, h1, by have := hh.out.bB; omega, h3⟩)⟩, hh.out.chs, hh.out.one, by omega, hh.out.last, HE.out, hh.out.below⟩
end Go.Proofs.YtljbnnpmnoejeaaGreatDoor.nn
namespace Go.Proofs.YtljbnnpmnoejeaaGreatDoor.nn
open Go.RowKit

/-- the last m digits of b, zeros ahead -/
def fw : Nat → Nat → List UInt8
  | 0, _ => []
  | m + 1, b => fw m (b / 10) ++ [UInt8.ofNat (48 + b % 10)]
theorem dec_big {u : Nat} (h : ¬ u < 10) : Lib.decDigits u = Lib.decDigits (u / 10) ++ [UInt8.ofNat (48 + u % 10)] := by rw [Lib.decDigits, dif_neg h]
theorem dec_join (m : Nat) : ∀ a b, a ≠ 0 → b < 10 ^ m → Lib.decDigits (a * 10 ^ m + b) = Lib.decDigits a ++ fw m b := by
  induction m with
  | zero => intro a b _ hb
            obtain rfl : b = 0 := by simpa using hb
            simp [fw]
  | succ m ih =>
    intro a b ha hb
    rw [Nat.pow_succ] at hb
    have hp : 1 ≤ a * 10 ^ m := Nat.mul_pos (by omega) (Nat.pow_pos (by decide))
    have e : a * 10 ^ (m + 1) + b = (a * 10 ^ m) * 10 + b := by rw [Nat.pow_succ, Nat.mul_assoc]
    rw [e, dec_big (by omega), show ((a * 10 ^ m) * 10 + b) / 10 = a * 10 ^ m + b / 10 by omega, show ((a * 10 ^ m) * 10 + b) % 10 = b % 10 by omega, ih a (b / 10) ha (by omega), fw, List.append_assoc]
theorem fw_zero (m : Nat) : fw m 0 = List.replicate m 48 := by
  induction m with
  | zero => rfl
  | succ m ih => rw [fw, Nat.zero_div, ih, List.replicate_succ']; rfl
theorem nd_le (m : Nat) : ∀ u, 1 ≤ m → u < 10 ^ m → Lib.nDigits u ≤ m := by
  induction m with
  | zero => intro u h; omega
  | succ m ih =>
    intro u _ hu
    by_cases h : u < 10
    · rw [Lib.nDigits_small h]; omega
    · rw [Lib.nDigits_big h]
      rw [Nat.pow_succ] at hu
      have hm : 1 ≤ m := by
        rcases Nat.eq_zero_or_pos m with e | e
        · subst e; simp at hu; omega
        · exact e
      have := ih (u / 10) hm (by omega)
      omega
theorem fw_pad (m : Nat) : ∀ b, 1 ≤ m → b < 10 ^ m → fw m b = List.replicate (m - Lib.nDigits b) 48 ++ Lib.decDigits b := by
  induction m with
  | zero => intro b h; omega
  | succ m ih =>
    intro b _ hb
    by_cases h : b < 10
    · rw [fw, show b / 10 = 0 by omega, fw_zero, Lib.nDigits_small h, Lib.decDigits_one h, Nat.add_sub_cancel, Nat.mod_eq_of_lt h]
    · rw [Nat.pow_succ] at hb
      have hm : 1 ≤ m := by
        rcases Nat.eq_zero_or_pos m with e | e
        · subst e; simp at hb; omega
        · exact e
      rw [fw, ih (b / 10) hm (by omega), dec_big h, Lib.nDigits_big h, List.append_assoc, Nat.add_sub_add_right]
theorem dec_next {V t u : Nat} (h : V / D19 ^ (t + 1) ≠ 0) (hu : u = V / D19 ^ t % D19) : Lib.decDigits (V / D19 ^ (t + 1)) ++ (List.replicate (19 - Lib.nDigits u) 48 ++ Lib.decDigits u) = Lib.decDigits (V / D19 ^ t) := by
  have hu19 : u < 10 ^ 19 := by rw [hu]; exact Nat.mod_lt _ (by decide)
  rw [← fw_pad 19 u (by decide) hu19, ← dec_join 19 _ _ h hu19, div_pow]
  congr 1
  rw [hu, show (10 : Nat) ^ 19 = D19 from rfl, Nat.mul_comm]
  exact Nat.div_add_mod _ _
theorem dec_first {V t u : Nat} (h : V / D19 ^ (t + 1) = 0) (hu : u = V / D19 ^ t % D19) : Lib.decDigits u = Lib.decDigits (V / D19 ^ t) := by
  rw [div_pow] at h
  have h2 : V / D19 ^ t < D19 := by
    rcases Nat.lt_or_ge (V / D19 ^ t) D19 with h1 | h1
    · exact h1
    · have := Nat.div_pos h1 d19_pos; omega
  rw [hu, Nat.mod_eq_of_lt h2]
theorem div_mono {V D a b : Nat} (h : V / D ^ b ≠ 0) (hab : a ≤ b) (hD : 0 < D) : V / D ^ a ≠ 0 := by
  intro e
  apply h
  have h1 : D ^ a ≤ D ^ b := Nat.pow_le_pow_right hD hab
  have h2 := Nat.div_le_div_left h1 (Nat.pow_pos hD) (a := V)
  rw [e] at h2
  exact Nat.le_zero.1 h2

/-- read back -/
def lf_ (l : List UInt8) (i : Nat) : Nat := (l.getD i 0).toNat
theorem lf_lo {l m : List UInt8} {i : Nat} (h : i < l.length) : lf_ (l ++ m) i = lf_ l i := by
  unfold lf_
  rw [List.getD_eq_getElem?_getD, List.getD_eq_getElem?_getD, List.getElem?_append_left h]
theorem lf_hi (l : List UInt8) (c : UInt8) : lf_ (l ++ [c]) l.length = c.toNat := by
  unfold lf_
  rw [List.getD_eq_getElem?_getD, List.getElem?_append_right (Nat.le_refl _), Nat.sub_self]
  rfl
theorem digit_nat {d : Nat} (h : d < 10) : (UInt8.ofNat (48 + d)).toNat = 48 + d := by
  rw [UInt8.toNat_ofNat']
  omega
theorem dec_read (u : Nat) : dgs (lf_ (Lib.decDigits u)) (Lib.decDigits u).length = true ∧ dv (lf_ (Lib.decDigits u)) (Lib.decDigits u).length = u := by
  induction u using Nat.strongRecOn with
  | _ u ih =>
    by_cases h : u < 10
    · rw [Lib.decDigits_one h]
      have e : lf_ [UInt8.ofNat (48 + u)] 0 = 48 + u := digit_nat h
      refine ⟨?_, ?_⟩
      · show (dgs _ 0 && dg _) = true
        rw [e]
        exact decide_eq_true (by omega)
      · show dv _ 0 * 10 + (lf_ _ 0 - 48) = u
        rw [e]
        show 0 * 10 + (48 + u - 48) = u
        omega
    · obtain ⟨h1, h2⟩ := ih (u / 10) (by omega)
      rw [dec_big h, List.length_append, List.length_singleton]
      have el : ∀ i, i < (Lib.decDigits (u / 10)).length → lf_ (Lib.decDigits (u / 10) ++ [UInt8.ofNat (48 + u % 10)]) i = lf_ (Lib.decDigits (u / 10)) i := fun i hi => lf_lo hi
      have eh := lf_hi (Lib.decDigits (u / 10)) (UInt8.ofNat (48 + u % 10))
      rw [digit_nat (Nat.mod_lt _ (by decide))] at eh
      refine ⟨?_, ?_⟩
      · rw [dgs, dgs_congr el, h1, eh, Bool.true_and]
        exact decide_eq_true (by omega)
      · rw [dv, dv_congr el, h2, eh]
        omega
end Go.Proofs.YtljbnnpmnoejeaaGreatDoor.nn
namespace Go.Proofs.YtljbnnpmnoejeaaGreatDoor.nn
open Go.RowKit

/-- the builder in block b, of the call's own, holds the bytes l -/
def Bld (B b : Nat) (l : List UInt8) (w : World) : Prop := Lib.IsBuilder 124 5 B b (Lib.byteCells l) w

theorem infoB : (Tryz.prog.info? 124).map (·.size) = some 2 := by kernel_rfl
theorem liesB : liesAt Tryz.prog Tryz.prog.depth 124 (2 / Tryz.prog.cellsOf 124) 0 124 1 = true := by kernel_rfl
theorem infoByte : (Tryz.prog.info? 5).map (fun i => (i.zero, i.size, i.bytes)) = some (some (.int .u8 0), 1, 1) := by kernel_rfl

set_option maxRecDepth 100000 in
set_option maxHeartbeats 1000000 in
theorem copyCheck_any (B b : Nat) (bs : List Value) (w : World) (h : Lib.IsBuilder 124 5 B b bs w) :
    Calls Tryz.prog 137 #[.pointer (some ⟨b, 0, none⟩)] w fun e w' => e = .returned (.tuple #[]) ∧ Lib.BuilderAt 124 5 B b (.pointer (some ⟨b, 0, none⟩)) bs w' ∧ Below B w w' := by
  rcases h with h | h
  · obtain ⟨j, hj, hjs⟩ := Option.map_eq_some_iff.1 infoB
    have c0 := h.cell0
    have hsh := h.shape
    have hfz := h.frozen0
    have HU := Lib.hid (h.used (.pointer (some ⟨b, 0, none⟩)))
    have HB := Lib.hid ((Below.refl B w).setCell (p := ⟨b, 0, none⟩) h.1 (.pointer (some ⟨b, 0, none⟩)))
    have HS := Lib.hid hsh
    clear h hsh
    go_enter Tryz.func137, Tryz.ntmps137
    go_wp2
    rw [Lib.run_to_unsafe w ⟨b, 0, none⟩ Tryz.underlying122 Tryz.underlying201 hj (by rw [hjs]; decide) HS.out (Nat.zero_lt_succ 1)]
    simp only [Result.andThen]
    rw [Oper.upon_value]
    go_wp2
    rw [run_callFunc_extern Tryz.func178 (by kernel_rfl) (by kernel_rfl) (by kernel_rfl) (e := Extern.AbiNoEscape.same) (by kernel_rfl), Lib.run_noEscape]
    simp only [Result.andThen]
    rw [Oper.upon_value]
    go_wp2
    rw [Lib.run_from_unsafe w ⟨b, 0, none⟩ Tryz.underlying201 Tryz.underlying122 hj HS.out liesB]
    simp only [Result.andThen]
    rw [Oper.upon_value]
    go_wp2
    go_end0
    exact ⟨rfl, HU.out, HB.out⟩
  · obtain ⟨j, hj, _⟩ := Option.map_eq_some_iff.1 infoB
    have c0 := h.cell0
    have HB := Lib.hid (Below.refl B w)
    have HU := Lib.hid h
    clear h
    go_enter Tryz.func137, Tryz.ntmps137
    go_wp2
    rw [Lib.run_neq_ptr_same w _ Tryz.underlying122 hj]
    go_wp2
    go_end0
    exact ⟨rfl, HU.out, HB.out⟩

theorem bytes_append (l : List UInt8) (s : ByteArray) : Lib.byteCells l ++ Lib.strCells s = Lib.byteCells (l ++ s.data.toList) := by simp [Lib.byteCells, Lib.strCells]

set_option maxRecDepth 100000 in
set_option maxHeartbeats 1000000 in
theorem writeString_any (B b : Nat) (l : List UInt8) (s : ByteArray) (w : World) (h : Bld B b l w) (hlen : l.length + s.size ≤ 140737488355328) (hBw : B ≤ w.heap.size) :
    Calls Tryz.prog 91 #[.pointer (some ⟨b, 0, none⟩), .string s] w fun e w' => e = .returned (.tuple #[.int .i64 s.size, .nilIface]) ∧ Bld B b (l ++ s.data.toList) w' ∧ Below B w w' := by
  obtain ⟨i0, hi, hz0, hz1, hz2⟩ := info_parts infoByte
  have HC := Lib.hid (copyCheck_any B b _ w h)
  have hs63 : s.size ≤ 140737488355328 := by omega
  clear h
  go_enter Tryz.func91, Tryz.ntmps91
  go_wp2_with fail
  refine HC.out.mono ?_
  rintro e w1 ⟨rfl, h1, hb1⟩
  have c0 := h1.cell0
  obtain ⟨hB, v, hbk, hown, hne⟩ := h1
  have c1 : w1.cell? ⟨b, 1, none⟩ = some v := cell_of_row _ _ 1 _ _ _ hbk
  rw [Lib.byteCells_length] at hown
  have HNE := Lib.hid hne
  have HBK := Lib.hid hbk
  have hb1s : B ≤ w1.heap.size := Nat.le_trans hBw hb1.size
  clear hne hbk
  go_wp2_with (at_builtin; refine Lib.wpList_append_own_string _ rfl _ _ 41 9 rfl B 5 i0 Tryz.underlying41 Tryz.underlying9 hi hz0 hz1 hz2 _ _ _ rfl hown s rfl (by unfold maxLen; omega) hlen hb1s ?_)
  intro v' w2 hown' hgrow _
  have hlt : b < w1.heap.size := (Array.getElem?_eq_some_iff.1 HBK.out).1
  have hb2 : w2.heap[b]? = some (.cells #[.pointer (some ⟨b, 0, none⟩), v] 124 (0, 0)) := (hgrow.block b hlt (fun e => HNE.out e.symm)).trans HBK.out
  have d0 : w2.cell? ⟨b, 0, none⟩ = some (.pointer (some ⟨b, 0, none⟩)) := cell_of_row _ _ 0 _ _ _ hb2
  have d1 : w2.cell? ⟨b, 1, none⟩ = some v := cell_of_row _ _ 1 _ _ _ hb2
  have f1 : w2.frozen? ⟨b, 1, none⟩ = false := by simp [World.frozen?, hb2]
  rw [bytes_append] at hown'
  have hl2 : (Lib.byteCells (l ++ s.data.toList)).length = l.length + s.size := by rw [Lib.byteCells_length, List.length_append]; rfl
  have hown2 : w2.ownsRow B 5 1 v' (Lib.byteCells (l ++ s.data.toList)).length (Lib.byteCells (l ++ s.data.toList)) := by rw [hl2]; exact hown'
  have HP := Lib.hid (Lib.BuilderAt.put hB hb2 hown2 (by decide))
  have hbg := Lib.hid ((hb1.trans ((Below.refl B w1).grown hgrow hb1s (fun k hk => (hown.lt k hk).1))).setCell (p := ⟨b, 1, none⟩) hB v')
  obtain ⟨ao, n', cap, rfl⟩ : ∃ ao n' cap, v' = .slice ao n' cap := by
    rcases hown'.2 with ⟨hv, _⟩ | ⟨g, cap, cur, hv, _⟩
    · exact ⟨_, _, _, hv⟩
    · exact ⟨_, _, _, hv⟩
  clear hb2 hl2 hown2 hown' hown hgrow
  go_wp2
  go_ret2
  exact ⟨rfl, .inr HP.out, hbg.out⟩
end Go.Proofs.YtljbnnpmnoejeaaGreatDoor.nn
namespace Go.Proofs.YtljbnnpmnoejeaaGreatDoor.nn
open Go.RowKit Go.Sort

/-- the table of the powers of ten stands in w -/
def Pow10 (w : World) : Prop := Lib.TabIs Tryz.prog w "internal/strconv.uint64pow10" .u64 Lib.pow10Tab

theorem below_put {α : Type} [Inhabited α] (enc : α → Value) (w : World) (o : Obj) (off : Nat) (d : Array α) (k : Nat) : Below w.heap.size w ((putRow enc (w.alloc o) w.heap.size off d).drewN k) :=
  ⟨rfl, rfl, rfl, by show w.heap.size ≤ (putRow enc (w.alloc o) w.heap.size off d).heap.size; rw [size_putRow]; simp, fun i hi => by
    show (putRow enc (w.alloc o) w.heap.size off d).heap[i]? = _
    unfold putRow mapBlock
    rw [Array.getElem?_modify, if_neg (by omega)]
    exact Below.heap_alloc _ _ _ hi⟩

set_option maxRecDepth 100000 in
set_option maxHeartbeats 2000000 in
theorem fmt_any (u : Nat) (w : World) (hu : u < 18446744073709551616) (ht : Pow10 w) :
    Calls Tryz.prog 136 #[.int .u64 (u : Int), .int .i64 10] w fun e w' => e = .returned (.string ⟨(Lib.decDigits u).toArray⟩) ∧ Below w.heap.size w w' := by
  have HB := Lib.hid (Below.refl w.heap.size w)
  by_cases h100 : u < 100
  · have HS := Lib.hid (fun W => (Tryz.internal_strconv_small u h100 W))
    have e1 : wrap64 (u : Int) = (u : Int) := by unfold wrap64; omega
    clear ht
    go_enter Tryz.func136, Tryz.ntmps136
    go_wp2_with fail
    refine (HS.out _).mono ?_
    rintro e w' ⟨rfl, rfl⟩
    go_wp2_with fail
    go_ret
    exact ⟨rfl, HB.out⟩
  · have hu1 : 1 ≤ u := by omega
    have hnd20 : Lib.nDigits u ≤ 20 := by have := Lib.numDigits_eq u hu1 hu; split at this <;> omega
    have hH := Lib.holds_zero0 w 197 (Lib.nDigits u) (by omega)
    have hfmt := Tryz.internal_strconv_formatBase10 w.heap.size 0 24 u (Array.replicate (Lib.nDigits u) 0) (w.alloc (.cells Lib.zeros24 197)) hH (by rw [Array.size_replicate]; exact Lib.lt_pow_nDigits u) hu (by rw [Array.size_replicate]; omega)
    rw [Array.size_replicate] at hfmt
    have hnum := Tryz.internal_strconv_numDigits u hu1 hu (w.alloc (.cells Lib.zeros24 197)) (Lib.tabIs_alloc ht _)
    have HNUM := Lib.hid hnum
    have HF := Lib.hid hfmt
    have HH := Lib.hid hH
    obtain ⟨nd, hnd⟩ : ∃ nd, Lib.nDigits u = nd := ⟨_, rfl⟩
    have HND := Lib.hid hnd
    rw [hnd] at HNUM HF hnd20
    have hal : Tryz.prog.arrayLen 197 = 24 := by kernel_rfl
    have hel : Tryz.prog.elem 197 = 5 := by kernel_rfl
    have hsl : ∀ W, (Instr.sliceAt 197 (.pointer (some ⟨w.heap.size, 0, none⟩)) none (some (.int .i64 (nd : Int))) none).run Tryz.prog W = .ok (.slice (some ⟨w.heap.size, 0, none⟩) nd 24) W := fun W => by
      rw [run_sliceAt_array_h W 197 ⟨w.heap.size, 0, none⟩ (by rw [hal, hel]; exact Tryz.underlying197) .i64 (nd : Int) (by omega) (by rw [hal]; omega), hal, hel]
      have z5 := Tryz.sizeOf5 W
      rw [z5]
      simp [Result.andThen, slicedAt]
      rfl
    clear hH hfmt hnum hnd ht hal hel
    go_enter Tryz.func136, Tryz.ntmps136
    go_wp2_with fail
    refine HNUM.out.mono ?_
    rintro e w' ⟨rfl, rfl⟩
    go_wp2_with fail
    refine HF.out.mono ?_
    rintro e w' ⟨rfl, k, v', dk, rfl, hF⟩
    have hcv : (convert 41 9 (.slice (some ⟨w.heap.size, 0, none⟩) nd 24)).run Tryz.prog ((putRow (fun (b : UInt8) => Value.int .u8 (b.toNat : Int)) (w.alloc (.cells Lib.zeros24 197)) w.heap.size 0 dk).drewN k) =
        .ok (.string ⟨(Lib.decDigits u).toArray⟩) ((putRow (fun (b : UInt8) => Value.int .u8 (b.toNat : Int)) (w.alloc (.cells Lib.zeros24 197)) w.heap.size 0 dk).drewN k) := by
      have hF' : Lib.FmtInv (Lib.nDigits u) u 0 v' dk := by rw [HND.out]; exact hF
      have h := run_convert_bytes_back (P := Tryz.prog) ((putRow (fun (b : UInt8) => Value.int .u8 (b.toNat : Int)) (w.alloc (.cells Lib.zeros24 197)) w.heap.size 0 dk).drewN k) 41 9 5 ⟨w.heap.size, 0, none⟩ 24 (Lib.decDigits u) Tryz.underlying41 Tryz.underlying5 Tryz.underlying9 (fun j hj => by
        rw [Lib.add_plain, Lib.row_is_numeral hF' j hj, World.cell?_drewN]
        exact cell?_putRow (fun (b : UInt8) => Value.int .u8 (b.toNat : Int)) _ w.heap.size 0 _ dk HH.out (by rw [hF'.size, Array.size_replicate]) j (by rw [hF'.size]; rw [Lib.decDigits_length] at hj; exact hj))
      rw [Lib.decDigits_length, HND.out] at h
      exact h
    have hb := Lib.hid (below_put (fun (b : UInt8) => Value.int .u8 (b.toNat : Int)) w (.cells Lib.zeros24 197) 0 dk k)
    go_wp2_with fail
    go_ret
    exact ⟨rfl, hb.out⟩
end Go.Proofs.YtljbnnpmnoejeaaGreatDoor.nn
namespace Go.Proofs.YtljbnnpmnoejeaaGreatDoor.nn
open Go.RowKit

/-- so many letters 0 -/
def zs (k : Nat) : ByteArray := ⟨(List.replicate k 48).toArray⟩

def z64 : ByteArray := ⟨#[48, 48, 48, 48, 48, 48, 48, 48, 48, 48, 48, 48, 48, 48, 48, 48, 48, 48, 48, 48, 48, 48, 48, 48, 48, 48, 48, 48, 48, 48, 48, 48, 48, 48, 48, 48, 48, 48, 48, 48, 48, 48, 48, 48, 48, 48, 48, 48, 48, 48, 48, 48, 48, 48, 48, 48, 48, 48, 48, 48, 48, 48, 48, 48]⟩
theorem z64_take {k : Nat} (h : k ≤ 18) : z64.extract 0 k = zs k := by
  have : ∀ k, k < 19 → z64.extract 0 k = zs k := by decide
  exact this k (by omega)
theorem ret_str {a b : ByteArray} (h : a = b) : Ending.returned (.string a) = .returned (.string b) := by rw [h]

set_option maxRecDepth 100000 in
set_option maxHeartbeats 1000000 in
theorem hasPrefix_any (Z s : ByteArray) (w : World) (h : s.size ≤ Z.size) (he : Z.extract 0 s.size = s) (_hZ : Z.size ≤ 1000000) :
    Calls Tryz.prog 139 #[.string Z, .string s] w fun e w' => e = .returned (.bool true) ∧ w = w' := by
  have key : Hid (Calls Tryz.prog 105 #[.string Z, .string s] w fun e w' => e = .returned (.bool true) ∧ w = w') := by
    refine Lib.hid ?_
    go_enter Tryz.func105, Tryz.ntmps105
    go_wp2
    go_ret
    exact ⟨rfl, rfl⟩
  clear he
  go_enter Tryz.func139, Tryz.ntmps139
  go_wp2_with fail
  refine key.out.mono ?_
  rintro e w' ⟨rfl, rfl⟩
  go_wp2_with fail
  go_ret
  exact ⟨rfl, rfl⟩

set_option maxRecDepth 100000 in
set_option maxHeartbeats 1000000 in
theorem hasPrefix_no (Z s Y : ByteArray) (w : World) (h : s.size ≤ Z.size) (he : Z.extract 0 s.size = Y) (hne' : (Y.data.toList == s.data.toList) = false) (_hZ : Z.size ≤ 1000000) :
    Calls Tryz.prog 139 #[.string Z, .string s] w fun e w' => e = .returned (.bool false) ∧ w = w' := by
  have hne : (Y.toList == s.toList) = false := by rw [ByteArray.toList_eq, ByteArray.toList_eq]; exact hne'
  clear hne'
  have key : Hid (Calls Tryz.prog 105 #[.string Z, .string s] w fun e w' => e = .returned (.bool false) ∧ w = w') := by
    refine Lib.hid ?_
    go_enter Tryz.func105, Tryz.ntmps105
    go_wp2
    go_ret
    exact ⟨rfl, rfl⟩
  clear he
  go_enter Tryz.func139, Tryz.ntmps139
  go_wp2_with fail
  refine key.out.mono ?_
  rintro e w' ⟨rfl, rfl⟩
  go_wp2_with fail
  go_ret
  exact ⟨rfl, rfl⟩

set_option maxRecDepth 100000 in
set_option maxHeartbeats 2000000 in
theorem repeat_zero (k : Nat) (w : World) (hk : k ≤ 18) :
    Calls Tryz.prog 92 #[.string ⟨#[48]⟩, .int .i64 (k : Int)] w fun e w' => e = .returned (.string (zs k)) ∧ w = w' := by
  by_cases h0 : k = 0
  · subst h0
    go_enter Tryz.func92, Tryz.ntmps92
    go_wp2
    go_ret
    exact ⟨rfl, rfl⟩
  · by_cases h1 : k = 1
    · subst h1
      go_enter Tryz.func92, Tryz.ntmps92
      go_wp2
      go_ret
      exact ⟨rfl, rfl⟩
    · have h2 : 2 ≤ k := by omega
      have HM := fun W => Tryz.bits_Mul 1 k (by omega) (by omega) W
      have e1 : 1 * k / 18446744073709551616 = 0 := by omega
      have e2 : 1 * k % 18446744073709551616 = k := by omega
      rw [e1, e2] at HM
      have HMM := Lib.hid HM
      clear e1 e2 HM h0 h1
      go_enter Tryz.func92, Tryz.ntmps92
      go_wp2_with fail
      refine (HMM.out _).mono ?_
      rintro e w' ⟨rfl, rfl⟩
      go_wp2_with fail
      refine (hasPrefix_no _ _ _ _ (by decide) rfl (by decide) (by decide)).mono ?_
      rintro e w' ⟨rfl, rfl⟩
      go_wp2_with fail
      refine (hasPrefix_no _ _ _ _ (by decide) rfl (by decide) (by decide)).mono ?_
      rintro e w' ⟨rfl, rfl⟩
      go_wp2_with fail
      refine (hasPrefix_any _ _ _ (by decide) (by decide) (by decide)).mono ?_
      rintro e w' ⟨rfl, rfl⟩
      go_wp2_with fail
      go_ret
      exact ⟨ret_str (z64_take hk), rfl⟩
end Go.Proofs.YtljbnnpmnoejeaaGreatDoor.nn
namespace Go.Proofs.YtljbnnpmnoejeaaGreatDoor.nn
open Go.RowKit

theorem fmtUint_any (u : Nat) (w : World) (hu : u < 18446744073709551616) (ht : Pow10 w) :
    Calls Tryz.prog 90 #[.int .u64 (u : Int), .int .i64 10] w fun e w' => e = .returned (.string ⟨(Lib.decDigits u).toArray⟩) ∧ Below w.heap.size w w' := by
  have H := Lib.hid (fmt_any u w hu ht)
  clear ht
  go_enter Tryz.func90, Tryz.ntmps90
  go_wp2_with fail
  refine H.out.mono ?_
  rintro e w' ⟨rfl, hb⟩
  go_wp2_with fail
  go_ret
  exact ⟨rfl, hb⟩

theorem Pow10.at_ {w : World} (h : Pow10 w) : 3 < w.heap.size := by
  unfold Pow10 Lib.TabIs World.var? at h
  rw [show Tryz.prog.globalNamed "internal/strconv.uint64pow10" = some 3 by kernel_rfl] at h
  rcases Nat.lt_or_ge 3 w.heap.size with h1 | h1
  · exact h1
  · exfalso
    have : w.heap[3]? = none := Array.getElem?_eq_none h1
    simp [this] at h
theorem Pow10.below {B : Nat} {w w' : World} (h : Pow10 w) (hb : Below B w w') (hB : 3 < B) : Pow10 w' := by
  unfold Pow10 Lib.TabIs World.var? at h ⊢
  rw [show Tryz.prog.globalNamed "internal/strconv.uint64pow10" = some 3 by kernel_rfl] at h ⊢
  simp only [Option.bind_some] at h ⊢
  rw [hb.block _ hB]
  exact h

theorem Bld.below {B b C : Nat} {l : List UInt8} {w w' : World} (h : Bld B b l w) (hb : Below C w w') (hC : w.heap.size ≤ C) : Bld B b l w' := by
  have key : ∀ p, Lib.BuilderAt 124 5 B b p (Lib.byteCells l) w → Lib.BuilderAt 124 5 B b p (Lib.byteCells l) w' := by
    rintro p ⟨h1, v, h2, ⟨h3, h4⟩, h5⟩
    have hlt : b < w.heap.size := (Array.getElem?_eq_some_iff.1 h2).1
    refine ⟨h1, v, (hb.block b (by omega)).trans h2, ⟨h3, h4.imp id ?_⟩, h5⟩
    rintro ⟨g, cap, cur, e1, e2, e3, e4⟩
    have hg : g < w.heap.size := (Array.getElem?_eq_some_iff.1 e3).1
    exact ⟨g, cap, cur, e1, e2, (hb.block g (by omega)).trans e3, e4⟩
  exact h.imp (key _) (key _)
theorem Bld.new (w : World) : Bld w.heap.size w.heap.size [] (w.alloc (.cells #[.pointer none, .slice none 0 0] 124)) :=
  .inl ⟨Nat.le_refl _, .slice none 0 0, heap_alloc_last _ _, ⟨rfl, .inl ⟨rfl, rfl⟩⟩, by simp [Value.ownBlock]⟩

/-- the digits, or nothing beside the error -/
def dgT (n : Nat) (f : Nat → Nat) : List UInt8 := if 4096 < tr f n then [] else Lib.decDigits (sm (2 ^ 32) f n)
def dgE (n : Nat) (f : Nat → Nat) : Nat := if 4096 < tr f n then 2 else 0

set_option maxRecDepth 100000 in
set_option maxHeartbeats 2000000 in
theorem digits_any (A : Option Addr) (n c : Nat) (f : Nat → Nat) (w : World) (hA : Rd w .u32 A n f) (lf : Lt (2 ^ 32) f n) (hn : n ≤ c) (hc : c ≤ maxLen) (ht : Pow10 w) :
    Calls Tryz.prog 49 #[.slice A n c] w fun e w' => e = .returned (.tuple #[.string ⟨(dgT n f).toArray⟩, .int .i64 (dgE n f : Int)]) ∧ Below w.heap.size w w' := by
  have HB := Lib.hid (fun o => (Below.refl w.heap.size w).alloc (Nat.le_refl _) o)
  by_cases hl : 4096 < tr f n
  · have e1 : dgT n f = [] := by unfold dgT; rw [if_pos hl]
    have e2 : dgE n f = 2 := by unfold dgE; rw [if_pos hl]
    rw [e1, e2]
    have HL := Lib.hid (long_one w A n c f 48 hA hn hc true (decide_eq_true hl))
    clear hA ht e1 e2 hl lf
    go_enter Tryz.func49, Tryz.ntmps49
    go_wp2_with fail
    refine HL.out.mono ?_
    rintro e w1 ⟨rfl, rfl⟩
    go_wp2_with fail
    go_ret2
    exact ⟨rfl, HB.out _⟩
  · have hle := tr_le f n
    obtain ⟨V, hV⟩ : ∃ V, sm (2 ^ 32) f n = V := ⟨_, rfl⟩
    have e1 : dgT n f = Lib.decDigits V := by unfold dgT; rw [if_neg hl, hV]
    have e2 : dgE n f = 0 := by unfold dgE; rw [if_neg hl]
    rw [e1, e2]
    have HL := Lib.hid (long_one w A n c f 48 hA hn hc false (decide_eq_false hl))
    have HTR := Lib.hid (fun o => trim_any A n c f (w.alloc o) (hA.alloc o) hn hc)
    have HWI := Lib.hid (fun o => widen_any A (tr f n) c f (w.alloc o) ((hA.mono hle).alloc o) (lf.mono hle) (by omega))
    obtain ⟨m, hm⟩ : ∃ m, tr f n = m := ⟨_, rfl⟩
    rw [sm_tr, hV, hm] at HWI
    rw [hm] at HTR hl
    have HP := Lib.hid ht
    have HPA := Lib.hid ht.at_
    clear hA e1 e2 lf hle hV hm ht
    go_enter Tryz.func49, Tryz.ntmps49
    go_wp2_with fail
    refine HL.out.mono ?_
    rintro e w1 ⟨rfl, rfl⟩
    go_wp2_with fail
    refine (HTR.out _).mono ?_
    rintro e w1 ⟨rfl, rfl⟩
    go_wp2_with fail
    refine (HWI.out _).mono ?_
    rintro e w2 ⟨g, cur, f2, rfl, hg, hbk, hcs, hin, lf2, hv2, hb2⟩
    have HCH := chunks_any w.heap.size g ((m + 1) / 2) ((m + 1) / 2) cur f2 w2 hbk hin lf2 (by simp at hg; omega) (Nat.le_refl _) (by omega)
    rw [hv2] at HCH
    have HCC := Lib.hid HCH
    have HB2 := Lib.hid ((HB.out _).trans (hb2.mono (by simp)))
    clear HCH hbk hin lf2 hv2 hb2 hg hcs
    go_wp2_with fail
    refine HCC.out.mono ?_
    rintro e w3 ⟨v, k, ch, rfl, hown, hch, hk1, hkM, hlast, hend, hb3⟩
    obtain ⟨A', c', rfl, hkc, hcm, hrd⟩ := Rd.of_own hown
    have HR := Lib.hid hrd
    have hB3 := HB2.out.trans hb3
    have HB3 := Lib.hid hB3
    have HCHS := Lib.hid hch
    have HLE := Lib.hid (And.intro hlast hend)
    have hkb : k ≤ 1000000 := by omega
    have HP3 := Lib.hid (HP.out.below hB3 HPA.out)
    have hz3 : w.heap.size ≤ w3.heap.size := hB3.size
    clear hown hch hlast hend hb3 hrd hB3
    go_wp2_with fail
    go_loopw [6] (fun s6 wr => ∃ (t : Nat) (l : List UInt8), t ≤ k ∧ s6 = .int .i64 ((t : Int) - 1) ∧ l.length ≤ 19 * (k - t) ∧ Hid ((t = k ∧ l = []) ∨ (t < k ∧ l = Lib.decDigits (V / D19 ^ t))) ∧ Hid (Bld w3.heap.size w3.heap.size l wr ∧ Below w3.heap.size w3 wr)) (fun s6 _ => (intOf s6 + 1).toNat)
    case atStart => exact ⟨k, [], Nat.le_refl _, rfl, Nat.zero_le _, Lib.hid (.inl ⟨rfl, rfl⟩), Lib.hid ⟨Bld.new w3, (Below.refl _ _).alloc (Nat.le_refl _) _⟩⟩
    case round =>
      obtain ⟨t, l, htk, rfl, hlen, hl2, hW⟩ := hrel
      have hzr : w3.heap.size ≤ wr.heap.size := hW.out.2.size
      by_cases h1 : 0 < t
      · obtain ⟨s, rfl⟩ : ∃ s, t = s + 1 := ⟨t - 1, by omega⟩
        have hs0 : (((s + 1 : Nat) : Int) - 1) = (s : Int) := by omega
        obtain ⟨bb, off, hA', hbl, hcell⟩ := HR.out (by omega)
        subst hA'
        have hx : wr.cell? ⟨bb, off + s, none⟩ = some (.int .u64 (ch s : Int)) := (hW.out.2.cell (p := ⟨bb, off + s, none⟩) hbl).trans (hcell s (by omega))
        have hu := HCHS.out s (by omega)
        obtain ⟨u, huu⟩ : ∃ u, ch s = u := ⟨_, rfl⟩
        rw [huu] at hx hu
        have hu19 : u < 10 ^ 19 := by rw [hu]; exact Nat.mod_lt _ (by decide)
        have hnd : Lib.nDigits u ≤ 19 := nd_le 19 u (by decide) hu19
        have hF := fmtUint_any u wr (Nat.lt_trans hu19 (by decide)) (HP3.out.below hW.out.2 (Nat.lt_of_lt_of_le HPA.out hz3))
        have HF := Lib.hid hF
        have HU := Lib.hid (And.intro hu hu19)
        obtain ⟨T, hT⟩ : ∃ T : ByteArray, (⟨(Lib.decDigits u).toArray⟩ : ByteArray) = T := ⟨_, rfl⟩
        have hTs : T.size = Lib.nDigits u := by rw [← hT, ← Lib.decDigits_length]; rfl
        have hTd : T.data.toList = Lib.decDigits u := by rw [← hT]
        rw [hT] at HF
        have HT := Lib.hid (And.intro hTs hTd)
        have hT19 : T.size ≤ 19 := by omega
        have hz' : Hid (Lib.nDigits u ≤ 19) := Lib.hid hnd
        clear hcell hF hu hu19 huu hT hTs hTd hnd
        rw [hs0]
        clear hs0
        go_wp2_with fail
        refine HF.out.mono ?_
        rintro e w4 ⟨rfl, hb4⟩
        have HW4 := Lib.hid (And.intro (hW.out.1.below hb4 (Nat.le_refl _)) (hW.out.2.trans (hb4.mono hzr)))
        have hzr4 : w3.heap.size ≤ w4.heap.size := Nat.le_trans hzr hb4.size
        clear hb4
        by_cases hlast : s + 1 < k
        · have hl3 : l = Lib.decDigits (V / D19 ^ (s + 1)) := by
            rcases hl2.out with ⟨h, _⟩ | ⟨_, h⟩
            · omega
            · exact h
          obtain ⟨q, hq⟩ : ∃ q, 19 - T.size = q := ⟨_, rfl⟩
          have hq' : (19 : Int) - (T.size : Int) = (q : Int) := by omega
          have hq18 : q ≤ 18 := by have := HT.out.1; have := Lib.nDigits_pos u; omega
          have HRE := Lib.hid (repeat_zero q w4 hq18)
          have HWS := Lib.hid (writeString_any w3.heap.size w3.heap.size l (zs q) w4 HW4.out.1 (by
            have : (zs q).size = q := by simp [zs, ByteArray.size]
            omega) hzr4)
          have HL3 := Lib.hid hl3
          have HQ := Lib.hid hq
          clear hl3 hq
          go_wp2_with fail
          refine HRE.out.mono ?_
          rintro e w5 ⟨rfl, rfl⟩
          go_wp2_with fail
          refine HWS.out.mono ?_
          rintro e w5 ⟨rfl, hbl5, hb5⟩
          have hzr5 : w3.heap.size ≤ w5.heap.size := Nat.le_trans hzr4 hb5.size
          have hzq : (zs q).data.toList = List.replicate q 48 := by simp [zs]
          rw [hzq] at hbl5
          have HWT := Lib.hid (writeString_any w3.heap.size w3.heap.size _ T w5 hbl5 (by rw [List.length_append, List.length_replicate]; omega) hzr5)
          have HB5 := Lib.hid (HW4.out.2.trans hb5)
          clear hbl5 hb5 hzq
          go_wp2_with fail
          refine HWT.out.mono ?_
          rintro e w6 ⟨rfl, hbl6, hb6⟩
          have hnew : l ++ List.replicate q 48 ++ T.data.toList = Lib.decDigits (V / D19 ^ s) := by
            rw [HT.out.2, HL3.out, ← HQ.out, HT.out.1, List.append_assoc]
            refine dec_next ?_ HU.out.1
            rcases HLE.out.1 with h | h
            · omega
            · exact div_mono h (by omega) d19_pos
          have hlen6 : (l ++ List.replicate q 48 ++ T.data.toList).length ≤ 19 * (k - s) := by
            have e : T.data.toList.length = T.size := rfl
            rw [List.length_append, List.length_append, List.length_replicate, e]
            omega
          have H6 := Lib.hid (And.intro hbl6 (HB5.out.trans hb6))
          have HN : Hid ((s = k ∧ l ++ List.replicate q 48 ++ T.data.toList = []) ∨ (s < k ∧ l ++ List.replicate q 48 ++ T.data.toList = Lib.decDigits (V / D19 ^ s))) := Lib.hid (.inr ⟨by omega, hnew⟩)
          clear hbl6 hb6 hnew
          go_wp2_with fail
          go_roundw
          case rel => exact ⟨s, _, by omega, by go_num, hlen6, HN, H6⟩
          case measure => simp [intOf]
        · have hks : s + 1 = k := by omega
          have hl3 : l = [] := by
            rcases hl2.out with ⟨_, h⟩ | ⟨h, _⟩
            · exact h
            · omega
          subst hl3
          have HWT := Lib.hid (writeString_any w3.heap.size w3.heap.size [] T w4 HW4.out.1 (by simp; omega) hzr4)
          have HKS := Lib.hid hks
          clear hks
          go_wp2_with fail
          refine HWT.out.mono ?_
          rintro e w6 ⟨rfl, hbl6, hb6⟩
          rw [List.nil_append] at hbl6
          have hnew : T.data.toList = Lib.decDigits (V / D19 ^ s) := by
            rw [HT.out.2]
            refine dec_first ?_ HU.out.1
            rw [HKS.out]
            exact HLE.out.2
          have hlen6 : T.data.toList.length ≤ 19 * (k - s) := by
            have e : T.data.toList.length = T.size := rfl
            rw [e]; omega
          have H6 := Lib.hid (And.intro hbl6 (HW4.out.2.trans hb6))
          have HN : Hid ((s = k ∧ T.data.toList = []) ∨ (s < k ∧ T.data.toList = Lib.decDigits (V / D19 ^ s))) := Lib.hid (.inr ⟨by omega, hnew⟩)
          clear hbl6 hb6 hnew
          go_wp2_with fail
          go_roundw
          case rel => exact ⟨s, _, by omega, by go_num, hlen6, HN, H6⟩
          case measure => simp [intOf]
      · obtain rfl : t = 0 := by omega
        have hl3 : l = Lib.decDigits V := by
          rcases hl2.out with ⟨h, _⟩ | ⟨_, h⟩
          · omega
          · rw [h, Nat.pow_zero, Nat.div_one]
        subst hl3
        have HST := Lib.hid (Tryz.Builder_String_any w3.heap.size w3.heap.size (Lib.decDigits V) wr hW.out.1 hzr)
        go_wp2_with fail
        refine HST.out.mono ?_
        rintro e w6 ⟨rfl, hb6⟩
        go_wp2_with fail
        go_ret2
        exact ⟨rfl, HB3.out.trans ((hW.out.2.trans hb6).mono hz3)⟩
end Go.Proofs.YtljbnnpmnoejeaaGreatDoor.nn
namespace Go.Proofs.YtljbnnpmnoejeaaGreatDoor.nn
open Go.RowKit

/-- a number, a limb, and the number of the error -/
def ResS (w w' : World) (e : Ending) (Q r er : Nat) : Prop :=
  ∃ A n c f, e = .returned (.tuple #[.slice A n c, .int .u32 (r : Int), .int .i64 (er : Int)]) ∧ Num w' A n c f Q ∧ Below w.heap.size w w'

/-- what DivSmall answers -/
def smE (n : Nat) (f : Nat → Nat) (d : Nat) : Nat := if 4096 < tr f n then 2 else if d = 0 then 1 else 0
def smQ (n : Nat) (f : Nat → Nat) (d : Nat) : Nat := if 4096 < tr f n then 0 else sm (2 ^ 32) f n / d
def smR (n : Nat) (f : Nat → Nat) (d : Nat) : Nat := if 4096 < tr f n then 0 else if d = 0 then 0 else sm (2 ^ 32) f n % d

end Go.Proofs.YtljbnnpmnoejeaaGreatDoor.nn
namespace Go.Proofs.YtljbnnpmnoejeaaGreatDoor.nn
open Go.RowKit

/-- what holds when the limbs from t on are divided, with the rest r -/
def DivRel32 (w wr : World) (g : Nat) (e : TypeId) (cur : Array Value) (off n : Nat) (f : Nat → Nat) (d : Nat) (f' : Nat → Nat) (cur' : Array Value) (r t : Nat) : Prop :=
  Wrote w wr g e cur cur' off n ∧ Ints cur' .u32 off n f' ∧ Lt (2 ^ 32) f' n ∧ r < d ∧ sm (2 ^ 32) f n + d * sm (2 ^ 32) f' t = d * sm (2 ^ 32) f' n + r * (2 ^ 32) ^ t + sm (2 ^ 32) f' t

theorem DivRel32.step {w wr : World} {g : Nat} {e : TypeId} {cur : Array Value} {off n : Nat} {f : Nat → Nat} {d : Nat} {f' : Nat → Nat} {cur' : Array Value} {r s q r' : Nat} (H : DivRel32 w wr g e cur off n f d f' cur' r (s + 1)) (hs : s < n)
    (hq : d * q + r' = r * (2 ^ 32) + f' s) (hqq : q < (2 ^ 32)) (hr : r' < d) :
    DivRel32 w (wr.setCell ⟨g, off + s, none⟩ (.int .u32 (q : Int))) g e cur off n f d (upd f' s q) (cur'.setIfInBounds (off + s) (.int .u32 (q : Int))) r' s := by
  obtain ⟨h1, h2, h3, _, h5⟩ := H
  refine ⟨h1.set_ s hs _, h2.set_ s _ hs, h3.upd hqq, hr, ?_⟩
  have a1 := sm_upd (2 ^ 32) f' q hs
  have a2 : sm (2 ^ 32) f' (s + 1) = sm (2 ^ 32) f' s + f' s * (2 ^ 32) ^ s := rfl
  rw [sm_upd_out (2 ^ 32) f' q (Nat.le_refl s)]
  rw [a2, Nat.pow_succ (2 ^ 32) s, Nat.mul_add d] at h5
  have b1 := congrArg (d * ·) a1
  simp only [Nat.mul_add] at b1
  have b2 := congrArg (· * (2 ^ 32) ^ s) hq
  simp only [Nat.add_mul] at b2
  have b3 : d * (q * (2 ^ 32) ^ s) = d * q * (2 ^ 32) ^ s := by rw [Nat.mul_assoc]
  have b4 : r * ((2 ^ 32) ^ s * (2 ^ 32)) = r * (2 ^ 32) * (2 ^ 32) ^ s := by rw [Nat.mul_comm ((2 ^ 32) ^ s), ← Nat.mul_assoc]
  rw [b3] at b1
  rw [b4] at h5
  omega

theorem quo32_lt {r x d : Nat} (hr : r < d) (hx : x < (2 ^ 32)) : (r * (2 ^ 32) + x) / d < (2 ^ 32) := by
  rw [Nat.div_lt_iff_lt_mul (by omega), Nat.mul_comm (2 ^ 32)]
  have h : (r + 1) * (2 ^ 32) ≤ d * (2 ^ 32) := Nat.mul_le_mul_right _ hr
  rw [Nat.add_mul] at h
  omega

/-- one limb, at the start of a block -/
theorem DivRel32.step0 {w wr : World} {g : Nat} {e : TypeId} {cur : Array Value} {n : Nat} {f : Nat → Nat} {d : Nat} {f' : Nat → Nat} {cur' : Array Value} {r s : Nat} (H : DivRel32 w wr g e cur 0 n f d f' cur' r (s + 1)) (hs : s < n) (hd : 0 < d) (hx : f' s < (2 ^ 32)) {z y : Int}
    (hz : z = (((r * 4294967296 + f' s) / d : Nat) : Int) % 4294967296) (hy : y = (((r * 4294967296 + f' s) % d : Nat) : Int)) :
    ∃ (r' : Nat) (f'' : Nat → Nat) (cur'' : Array Value), Value.int .u64 y = .int .u64 (r' : Int) ∧ Hid (DivRel32 w (wr.setCell ⟨g, s, none⟩ (.int .u32 z)) g e cur 0 n f d f'' cur'' r' s) := by
  have e1 := Nat.div_add_mod (r * 4294967296 + f' s) d
  have e2 : (r * 4294967296 + f' s) / d < 4294967296 := quo32_lt H.2.2.2.1 hx
  have e3 := Nat.mod_lt (r * 4294967296 + f' s) hd
  have h := H.step hs e1 e2 e3
  rw [Nat.zero_add] at h
  have e4 : z = (((r * 4294967296 + f' s) / d : Nat) : Int) := by
    rw [hz]
    generalize (r * 4294967296 + f' s) / d = q at *
    omega
  rw [e4]
  exact ⟨_, _, _, by rw [hy], h⟩

theorem joined {r x : Nat} (hr : r < 4294967296) (hx : x < 4294967296) : bits BinOp.or IntKind.u64 ((r : Int) * 4294967296) (x : Int) = ((r * 4294967296 + x : Nat) : Int) := by
  have e : (r : Int) * 4294967296 = ((r * 4294967296 : Nat) : Int) := by omega
  rw [e, u64_or_nat (r * 4294967296) x (by omega) (Nat.lt_trans hx (by decide)), nat_join 32 _ _ (Nat.mul_mod_left _ _) hx]

set_option maxRecDepth 100000 in
set_option maxHeartbeats 1000000 in
theorem rdivSmall_all (A : Option Addr) (n c d : Nat) (f : Nat → Nat) (w : World) (hA : Rd w .u32 A n f) (lf : Lt (2 ^ 32) f n) (hnc : n ≤ c) (hcm : c ≤ maxLen) (hn4 : n * 4 ≤ 140737488351232) (hd : d < 4294967296) :
    Calls Tryz.prog 94 #[.slice A n c, .int .u32 d] w fun e w' => ResS w w' e (smQ n f d) (smR n f d) (smE n f d) := by
  have hbw1 : Below w.heap.size w (w.alloc (.cells #[.slice A n c] 48)) := (Below.refl _ _).alloc (Nat.le_refl _) _
  have hlong := rlong_any _ 1 1 _ _ _ _ _ (rds_one w A n c f 48 hA hnc hcm) (by simp [maxLen]) (fun i hi => by omega)
  have e1 : lg (fun _ => n) (fun _ => f) 1 = decide (4096 < tr f n) := by simp only [lg, Bool.false_or]
  rw [e1] at hlong
  have hle := tr_le f n
  by_cases hl : 4096 < tr f n
  · have H1 : Hid (smQ n f d = 0) := if_pos hl
    have H2 : Hid (smR n f d = 0) := if_pos hl
    have H3 : Hid (smE n f d = 2) := if_pos hl
    rw [decide_eq_true hl] at hlong
    have HL := Lib.hid hlong
    clear hl hlong e1
    go_enter Tryz.func94, Tryz.ntmps94
    go_wp2_with fail
    refine HL.out.mono ?_
    rintro e w2 ⟨rfl, hb2⟩
    go_wp2
    go_ret3
    rw [H1.out, H2.out, H3.out]
    exact ⟨none, 0, 0, _, rfl, num_nil _, hbw1.trans (hb2.mono (by rw [hsz]; omega))⟩
  · rw [decide_eq_false hl] at hlong
    have HL := Lib.hid hlong
    clear hlong e1
    rcases Nat.eq_zero_or_pos d with hz | hz
    · subst hz
      have H1 : Hid (smQ n f 0 = 0) := Lib.hid (by unfold smQ; rw [if_neg hl]; exact Nat.div_zero _)
      have H2 : Hid (smR n f 0 = 0) := Lib.hid (by unfold smR; rw [if_neg hl, if_pos rfl])
      have H3 : Hid (smE n f 0 = 1) := Lib.hid (by unfold smE; rw [if_neg hl, if_pos rfl])
      clear hl
      go_enter Tryz.func94, Tryz.ntmps94
      go_wp2_with fail
      refine HL.out.mono ?_
      rintro e w2 ⟨rfl, hb2⟩
      go_wp2
      go_ret3
      rw [H1.out, H2.out, H3.out]
      exact ⟨none, 0, 0, _, rfl, num_nil _, hbw1.trans (hb2.mono (by rw [hsz]; omega))⟩
    · have H1 : Hid (smQ n f d = sm (2 ^ 32) f n / d) := Lib.hid (by unfold smQ; rw [if_neg hl])
      have H2 : Hid (smR n f d = sm (2 ^ 32) f n % d) := Lib.hid (by unfold smR; rw [if_neg hl, if_neg (by omega)])
      have H3 : Hid (smE n f d = 0) := Lib.hid (by unfold smE; rw [if_neg hl, if_neg (by omega)])
      have lp := lf.mono (tr_le f n)
      have sp := sm_tr (2 ^ 32) f n
      have hdz : ((d : Int) == 0) = false := by rw [beq_eq_false_iff_ne]; omega
      have HT : Hid (∀ W, Below w.heap.size w W → Calls Tryz.prog 79 #[.slice A n c] W fun e w' => ∃ v, e = .returned v ∧ w'.ownsRow W.heap.size 72 1 v (tr f n) (vl .u32 f (tr f n)) ∧ Below W.heap.size W w') := Lib.hid fun W hW => rtrim_any A n c f W (hA.below hW) hnc (by omega)
      obtain ⟨p, hp⟩ : ∃ p, tr f n = p := ⟨_, rfl⟩
      rw [hp] at lp sp hl HT hle
      rw [← sp] at H1 H2
      have LP := Lib.hid lp
      clear hp sp lf lp
      go_enter Tryz.func94, Tryz.ntmps94
      go_wp2_with fail
      refine HL.out.mono ?_
      rintro e w2 ⟨rfl, hb2⟩
      have hbw2 : Below w.heap.size w w2 := hbw1.trans (hb2.mono (by rw [hsz]; omega))
      clear hb2
      go_wp2_with fail
      refine (HT.out _ hbw2).mono ?_
      rintro e w3 ⟨v3, rfl, hown3, hb3⟩
      have hbw3 : Below w.heap.size w w3 := hbw2.trans (hb3.mono hbw2.size)
      have hs2 := hbw2.size
      rcases hown3.2 with ⟨rfl, hp0⟩ | ⟨g0, cap, _, rfl, hg0, _⟩
      · subst hp0
        have HTT := Lib.hid (rtrim_any none 0 0 f w3 Rd.none_ (Nat.le_refl _) (by omega))
        have HB3 := Lib.hid hbw3
        have e0 : Hid (sm (2 ^ 32) f 0 / d = 0 ∧ sm (2 ^ 32) f 0 % d = 0) := Lib.hid (by simp [sm])
        clear hown3 hb3 hbw2 hbw3
        go_wp2
        go_loopw [8, 9] (fun s8 s9 wr => s8 = .int .u64 0 ∧ s9 = .int .i64 (-1) ∧ wr = w3) (fun _ _ _ => 0)
        case atStart => exact ⟨rfl, rfl, rfl⟩
        case round =>
          obtain ⟨rfl, rfl, rfl⟩ := hrel
          go_wp2_with fail
          refine HTT.out.mono ?_
          rintro e w5 ⟨v5, rfl, hown5, hb5⟩
          have hbw5 := HB3.out.trans (hb5.mono HB3.out.size)
          obtain ⟨A5, c5, rfl, hN5⟩ := own_num hown5 (fun _ h => absurd h (by simp [tr])) (tr_trm f 0)
          have N5 := Lib.hid hN5
          clear hown5 hb5 hN5
          go_wp2
          go_ret3
          rw [H1.out, H2.out, H3.out, e0.out.1, e0.out.2]
          refine ⟨A5, tr f 0, c5, f, rfl, ?_, hbw5⟩
          have h1 := N5.out
          rw [sm_tr] at h1
          exact h1
      · obtain ⟨cur, hbk, hint, hbg, hcap, hcm3, _, hfin⟩ := own_wrote hown3
        have hgw : w.heap.size ≤ g0 := Nat.le_trans hs2 hg0
        have HB3 := Lib.hid hbw3
        have HF := Lib.hid hfin
        unfold maxLen at hcm3
        clear hown3 hb3 hbw2 hbw3 hs2 hfin hg0 hbg
        go_wp2
        go_loopw [8, 9] (fun s8 s9 wr => ∃ (r t : Nat) (f' : Nat → Nat) (cur' : Array Value), t ≤ p ∧ s8 = .int .u64 (r : Int) ∧ s9 = .int .i64 ((t : Int) - 1) ∧ Hid (DivRel32 w3 wr g0 72 cur 0 p f d f' cur' r t)) (fun _ s9 _ => (intOf s9 + 1).toNat)
        case atStart => exact ⟨0, p, f, cur, Nat.le_refl _, rfl, rfl, Lib.hid ⟨Wrote.refl hbk 0 p, hint, LP.out, hz, by omega⟩⟩
        case round =>
          obtain ⟨r, t, f', cur', ht, rfl, rfl, hh⟩ := hrel
          by_cases h1 : 0 < t
          · obtain ⟨s, rfl⟩ : ∃ s, t = s + 1 := ⟨t - 1, by omega⟩
            have hx := (Bk.cell hh.out.1.blk (0 + s)).trans (hh.out.2.1 s (by omega))
            have hxf := Bk.frozen hh.out.1.blk (0 + s)
            rw [Nat.zero_add] at hx hxf
            have bx : f' s < 4294967296 := hh.out.2.2.1 s (by omega)
            have br : r < d := hh.out.2.2.2.1
            have hj := joined (r := r) (x := f' s) (by omega) bx
            have hs0 : (((s + 1 : Nat) : Int) - 1) = (s : Int) := by omega
            rw [hs0]
            clear hs0
            have hdpos : 0 < d := hz
            go_wp2
            obtain ⟨r', f'', cur'', er, HR⟩ := hh.out.step0 (z := ((r : Int) * 4294967296 + (f' s : Int)) / (d : Int) % 4294967296) (y := ((r : Int) * 4294967296 + (f' s : Int)) % (d : Int)) (by omega) hdpos bx (by simp) (by simp)
            go_roundw
            case rel => exact ⟨r', s, f'', cur'', by omega, er, rfl, HR⟩
            case measure => simp [intOf]
          · obtain rfl : t = 0 := by omega
            have ho := HF.out _ cur' f' hh.out.1 hh.out.2.1
            have hbw4 : Below w.heap.size w wr := HB3.out.grown hh.out.1.grown HB3.out.size (fun k hk => by injection hk with hk; omega)
            have hv := hh.out.2.2.2.2
            have hrd := hh.out.2.2.2.1
            have l4 := hh.out.2.2.1
            have hq : Hid (sm (2 ^ 32) f' p = sm (2 ^ 32) f p / d ∧ r = sm (2 ^ 32) f p % d) := Lib.hid (by
              have e : sm (2 ^ 32) f p = sm (2 ^ 32) f' p * d + r := by simp [sm] at hv; rw [Nat.mul_comm]; omega
              rw [e, Nat.mul_add_mod_of_lt' hrd hz, Nat.mul_add_div' hrd hz]
              exact ⟨rfl, rfl⟩)
            obtain ⟨A2, c2, e2, hc2, hm2, hr2⟩ := Rd.of_own ho
            injection e2 with e2 _ e6
            subst e2
            subst e6
            have HTT := Lib.hid (rtrim_any (some ⟨g0, 0, none⟩) p cap f' wr hr2 hc2 (by omega))
            have L4 := Lib.hid l4
            have br : r ≤ 4294967295 := by omega
            clear ho hv hrd l4 hr2 hh hm2
            go_wp2_with fail
            refine HTT.out.mono ?_
            rintro e w5 ⟨v5, rfl, hown5, hb5⟩
            have hbw5 : Below w.heap.size w w5 := hbw4.trans (hb5.mono hbw4.size)
            obtain ⟨A5, c5, rfl, hN5⟩ := own_num hown5 (L4.out.mono (tr_le f' p)) (tr_trm f' p)
            have N5 := Lib.hid hN5
            clear hown5 hb5 hN5
            go_wp2
            go_ret3
            rw [H1.out, H2.out, H3.out]
            refine ⟨A5, tr f' p, c5, f', ?_, ?_, hbw5⟩
            · rw [← hq.out.2]; rfl
            · have h1 := N5.out
              rw [sm_tr, hq.out.1] at h1
              exact h1
end Go.Proofs.YtljbnnpmnoejeaaGreatDoor.nn
namespace Go.Proofs.YtljbnnpmnoejeaaGreatDoor.nn
open Go.RowKit

theorem nd_cap {V K : Nat} (h : bl V ≤ K) : (Lib.decDigits V).length ≤ K + 1 := by
  rw [Lib.decDigits_length]
  exact nd_le (K + 1) V (by omega) (Nat.lt_of_lt_of_le (bl_lt V) (Nat.le_trans (Nat.pow_le_pow_right (by decide) h) (Nat.le_trans (Nat.pow_le_pow_left (by decide : 2 ≤ 10) K) (Nat.pow_le_pow_right (by decide) (Nat.le_succ K)))))
def D9 : Nat := 1000000000
/-- what is not yet written of the digits of one piece: all nine, or without zeros ahead -/
def rem9 (full : Bool) (i rc : Nat) : List UInt8 := if full = true then fw (9 - i) rc else if rc = 0 then [] else Lib.decDigits rc
theorem rem9_step {full : Bool} {i rc : Nat} (h : if full = true then i < 9 else rc ≠ 0) : rem9 full i rc = rem9 full (i + 1) (rc / 10) ++ [UInt8.ofNat (48 + rc % 10)] := by
  cases full with
  | true =>
    have h9 : i < 9 := h
    unfold rem9
    rw [if_pos rfl, if_pos rfl, show 9 - i = (9 - (i + 1)) + 1 by omega, fw]
  | false =>
    have hr : rc ≠ 0 := h
    unfold rem9
    rw [if_neg (show ¬ (false = true) by decide), if_neg (show ¬ (false = true) by decide), if_neg hr]
    by_cases h10 : rc < 10
    · rw [if_pos (by omega), Lib.decDigits_one h10, Nat.mod_eq_of_lt h10]; rfl
    · rw [if_neg (by omega), dec_big h10]
/-- the last piece or one more -/
theorem dec_piece {X : Nat} (h : X ≠ 0) : Lib.decDigits X = (if X / D9 ≠ 0 then Lib.decDigits (X / D9) else []) ++ rem9 (decide (X / D9 ≠ 0)) 0 (X % D9) := by
  by_cases h0 : X / D9 ≠ 0
  · rw [if_pos h0, decide_eq_true h0]
    unfold rem9
    have h1 := dec_join 9 (X / D9) (X % D9) h0 (Nat.mod_lt _ (by decide))
    rw [show (10 : Nat) ^ 9 = D9 from rfl, Nat.mul_comm, Nat.div_add_mod] at h1
    rw [if_pos rfl, h1]
  · have e : X / D9 = 0 := by omega
    have e2 : X % D9 = X := Nat.mod_eq_of_lt (by
      rcases Nat.lt_or_ge X D9 with h1 | h1
      · exact h1
      · have := Nat.div_pos h1 (by decide : 0 < D9); omega)
    rw [if_neg h0, decide_eq_false h0, e2]
    unfold rem9
    rw [if_neg (by decide), if_neg h, List.nil_append]
theorem Num.keep {w w' : World} {A : Option Addr} {n c R : Nat} {f : Nat → Nat} (h : Num w A n c f R) (hb : Below w.heap.size w w') : Num w' A n c f R := ⟨h.le, h.cap, h.rd.below hb, h.lt, h.trm, h.val⟩
theorem app_list (a b : ByteArray) : (a ++ b).data.toList = a.data.toList ++ b.data.toList := by
  rw [ByteArray.data_append, Array.toList_append]

set_option maxRecDepth 100000 in
set_option maxHeartbeats 2000000 in
theorem rdigits_all (A : Option Addr) (n c : Nat) (f : Nat → Nat) (w : World) (hA : Rd w .u32 A n f) (lf : Lt (2 ^ 32) f n) (hn : n ≤ c) (hcm : c ≤ maxLen) (hc : n * 4 ≤ 140737488351232) :
    Calls Tryz.prog 51 #[.slice A n c] w fun e w' => e = .returned (.tuple #[.string ⟨(dgT n f).toArray⟩, .int .i64 (dgE n f : Int)]) ∧ Below w.heap.size w w' := by
  have hbw1 : Below w.heap.size w (w.alloc (.cells #[.slice A n c] 48)) := (Below.refl _ _).alloc (Nat.le_refl _) _
  have hlong := rlong_any _ 1 1 _ _ _ _ _ (rds_one w A n c f 48 hA hn hcm) (by simp [maxLen]) (fun i hi => by omega)
  have e1 : lg (fun _ => n) (fun _ => f) 1 = decide (4096 < tr f n) := by simp only [lg, Bool.false_or]
  rw [e1] at hlong
  by_cases hl : 4096 < tr f n
  · have H1 : dgT n f = [] := if_pos hl
    have H2 : dgE n f = 2 := if_pos hl
    rw [decide_eq_true hl] at hlong
    have HL := Lib.hid hlong
    rw [H1, H2]
    clear hl hlong e1 H1 H2
    go_enter Tryz.func51, Tryz.ntmps51
    go_wp2_with fail
    refine HL.out.mono ?_
    rintro e w2 ⟨rfl, hb2⟩
    go_wp2_with fail
    go_ret2
    exact ⟨rfl, hbw1.trans (hb2.mono (by rw [hsz]; omega))⟩
  · have lt' := lf.mono (tr_le f n)
    have hVb : sm (2 ^ 32) f n < big := Nat.lt_of_not_le fun h => hl ((long_iff lf).2 h)
    have hbl : bl (sm (2 ^ 32) f n) ≤ 32 * 4096 := by
      refine Nat.le_trans (bl_le (k := 32 * tr f n) ?_) (by omega)
      rw [Nat.pow_mul 2 32 (tr f n), ← sm_tr]
      exact sm_lt lt'
    have hsm := sm_tr (2 ^ 32) f n
    obtain ⟨V, hV⟩ : ∃ V, sm (2 ^ 32) f n = V := ⟨_, rfl⟩
    have H1 : dgT n f = Lib.decDigits V := by unfold dgT; rw [if_neg hl, hV]
    have H2 : dgE n f = 0 := by unfold dgE; rw [if_neg hl]
    rw [hV] at hVb hbl hsm
    obtain ⟨p, hp⟩ : ∃ p, tr f n = p := ⟨_, rfl⟩
    have HTR : Hid (∀ W, Below w.heap.size w W → Calls Tryz.prog 79 #[.slice A n c] W fun e w' => ∃ A' c', e = .returned (.slice A' p c') ∧ Num w' A' p c' f V ∧ Below W.heap.size W w') := Lib.hid fun W hW => by
      refine (rtrim_any A n c f W (hA.below hW) hn (by omega)).mono ?_
      rintro e w' ⟨v, rfl, ho, hb⟩
      obtain ⟨A', c', rfl, k1, k2, hr⟩ := Rd.of_own ho
      rw [hp] at hr k1 lt' hsm ⊢
      exact ⟨A', c', rfl, ⟨k1, k2, hr, lt', by rw [← hp]; exact tr_trm f n, hsm⟩, hb⟩
    have hp4 : p ≤ 4096 := by omega
    obtain ⟨LV, hLV⟩ : ∃ LV, (Lib.decDigits V).length = LV := ⟨_, rfl⟩
    have hLV1 : LV ≤ 131073 := by rw [← hLV]; exact nd_cap hbl
    have HV := Lib.hid (And.intro hVb hLV)
    rw [decide_eq_false hl] at hlong
    have HL := Lib.hid hlong
    rw [H1, H2]
    clear hlong e1 H1 H2 hl lt' hVb hbl hsm hV hp lf hA hLV
    go_enter Tryz.func51, Tryz.ntmps51
    go_wp2_with fail
    refine HL.out.mono ?_
    rintro e w2 ⟨rfl, hb2⟩
    have hbw2 : Below w.heap.size w w2 := hbw1.trans (hb2.mono (by rw [hsz]; omega))
    clear hb2
    go_wp2_with fail
    refine (HTR.out _ hbw2).mono ?_
    rintro e w3 ⟨A3, c3, rfl, hn3, hb3⟩
    have HN3 := Lib.hid hn3
    have HB3 := Lib.hid (hbw2.trans (hb3.mono hbw2.size))
    clear hn3 hb3 hbw1 hbw2 hcm
    by_cases hp0 : p = 0
    · subst hp0
      have hV0 : V = 0 := by have := HN3.out.val; simp [sm] at this; exact this.symm
      subst hV0
      have hdec : (⟨(Lib.decDigits 0).toArray⟩ : ByteArray) = ⟨#[48]⟩ := by rw [Lib.decDigits_one (by decide)]; rfl
      have HD := Lib.hid hdec
      clear hdec
      go_wp2_with fail
      go_ret2
      exact ⟨by rw [HD.out]; rfl, HB3.out⟩
    · have hp1 : ((p : Int) == 0) = false := by simp; omega
      go_wp2_with fail
      clear hp1
      go_loopw [4, 5] (fun s4 s5 wr => ∃ (A' : Option Addr) (n' c' : Nat) (f' : Nat → Nat) (S : ByteArray) (X : Nat), s4 = .slice A' n' c' ∧ s5 = .string S ∧ n' ≤ 4096 ∧ Hid (S.size ≤ LV) ∧ Hid (Num wr A' n' c' f' X ∧ Below w.heap.size w wr) ∧ Hid (Lib.decDigits V = (if X ≠ 0 then Lib.decDigits X else []) ++ S.data.toList)) (fun _ s5 _ => match s5 with | .string S => LV + 1 - S.size | _ => 0)
      case atStart => exact ⟨A3, p, c3, f, ⟨#[]⟩, V, rfl, rfl, hp4, Lib.hid (Nat.zero_le _), Lib.hid ⟨HN3.out, HB3.out⟩, Lib.hid (by
        have hV0 : V ≠ 0 := by
          intro h
          have h1 := sm_pos (Nat.two_pow_pos 32) HN3.out.trm hp0
          have h2 := HN3.out.val
          omega
        rw [if_pos hV0]
        simp)⟩
      case round =>
        obtain ⟨A', n', c', f', S, X, rfl, rfl, hn4, hS, hW, hI⟩ := hrel
        by_cases hn0 : n' = 0
        · subst hn0
          have hX : X = 0 := by have := hW.out.1.val; simp [sm] at this; exact this.symm
          have HD : Hid ((⟨(Lib.decDigits V).toArray⟩ : ByteArray) = S) := Lib.hid (by
            have h := hI.out
            rw [if_neg (by omega), List.nil_append] at h
            apply ByteArray.ext
            rw [h])
          clear hX
          go_wp2_with fail
          go_ret2
          exact ⟨by rw [HD.out]; rfl, hW.out.2⟩
        · have hn1 : 0 < n' := by omega
          have hX : X ≠ 0 := by
            intro h
            have h1 := sm_pos (Nat.two_pow_pos 32) hW.out.1.trm hn0
            have h2 := hW.out.1.val
            omega
          have hle := tr_le f' n'
          have hXb : X < big := by rw [← hW.out.1.val]; exact Nat.lt_of_lt_of_le (sm_lt hW.out.1.lt) (le_big hn4)
          have HXB := Lib.hid hXb
          have q1 : smQ n' f' 1000000000 = X / D9 := by unfold smQ; rw [if_neg (by omega), hW.out.1.val]; rfl
          have q2 : smR n' f' 1000000000 = X % D9 := by unfold smR; rw [if_neg (by omega), if_neg (by decide), hW.out.1.val]; rfl
          have q3 : smE n' f' 1000000000 = 0 := by unfold smE; rw [if_neg (by omega), if_neg (by decide)]
          have hds := rdivSmall_all A' n' c' 1000000000 f' wr hW.out.1.rd hW.out.1.lt hW.out.1.le hW.out.1.cap (by omega) (by decide)
          rw [q1, q2, q3] at hds
          have HDS := Lib.hid hds
          have hpc := dec_piece hX
          have hdd : D9 = 1000000000 := rfl
          have hr : X % D9 < 1000000000 := Nat.mod_lt _ (by decide)
          obtain ⟨r, hrr⟩ : ∃ r, X % D9 = r := ⟨_, rfl⟩
          obtain ⟨X2, hX2⟩ : ∃ X2, X / D9 = X2 := ⟨_, rfl⟩
          rw [hrr, hX2] at hpc HDS
          rw [hrr] at hr
          have HXX : Hid (X2 ≤ X) := Lib.hid (by rw [← hX2]; exact Nat.div_le_self _ _)
          have hJ := hI.out
          rw [if_pos hX, hpc, List.append_assoc] at hJ
          have HJ := Lib.hid hJ
          have HRX : Hid (X2 = 0 → r ≠ 0) := Lib.hid fun h => by
            intro h2
            have := Nat.div_add_mod X D9
            rw [hX2, hrr, h, h2] at this
            omega
          clear hXb hle q1 q2 q3 hds hpc hrr hX2 hJ hI hdd hX hn0
          go_wp2_with fail
          refine HDS.out.mono ?_
          rintro e w6 ⟨A6, n6, c6, f6, rfl, hn6, hb6⟩
          have HN6 := Lib.hid hn6
          have HB6 := Lib.hid (hW.out.2.trans (hb6.mono hW.out.2.size))
          have h64 : n6 ≤ 4096 := by
            rcases Nat.lt_or_ge 4096 n6 with h | h
            · have h1 := trm_long hn6.trm h
              rw [hn6.val] at h1
              exact absurd (Nat.lt_of_le_of_lt HXX.out HXB.out) (by omega)
            · exact h
          clear hn6 hb6 HDS
          go_wp2_with fail
          by_cases hn60 : n6 = 0
          · have hX2 : X2 = 0 := by subst hn60; have := HN6.out.val; simp [sm] at this; exact this.symm
            subst hX2
            have hr0 : r ≠ 0 := HRX.out rfl
            have HR0 := Lib.hid hr0
            have HJ2 : Hid (Lib.decDigits V = rem9 false 0 r ++ S.data.toList) := Lib.hid (by have h := HJ.out; rw [if_neg (by omega), decide_eq_false (by omega), List.nil_append] at h; exact h)
            subst hn60
            clear hr0
            go_loopw [7, 9, 10] (fun s7 s9 s10 wr => ∃ (i rc : Nat) (T : ByteArray), i ≤ 9 ∧ s10 = .int .i64 (i : Int) ∧ s7 = .int .u32 (rc : Int) ∧ s9 = .string T ∧ rc < 1000000000 ∧ Hid (T.size = i) ∧ Hid (rc * 10 ^ i ≤ r) ∧ Hid (rem9 false 0 r = rem9 false i rc ++ T.data.toList) ∧ Hid (Below w6.heap.size w6 wr)) (fun _ _ s10 _ => 9 - (intOf s10).toNat)
            case atStart => exact ⟨0, r, ⟨#[]⟩, Nat.zero_le _, rfl, rfl, rfl, hr, Lib.hid rfl, Lib.hid (by simp), Lib.hid (by simp), Lib.hid (Below.refl _ _)⟩
            case round =>
              obtain ⟨i, rc, T, hi, rfl, rfl, rfl, hrc, hT, h10, hG, hB⟩ := hrel
              by_cases hgo : 0 < rc
              · have hi9 : i < 9 := by
                  rcases Nat.lt_or_ge i 9 with h | h
                  · exact h
                  · have h1 : 10 ^ 9 ≤ 10 ^ i := Nat.pow_le_pow_right (by decide) h
                    have h2 : 1 * 10 ^ i ≤ rc * 10 ^ i := Nat.mul_le_mul_right _ hgo
                    have h3 := h10.out
                    have h4 : (10 : Nat) ^ 9 = 1000000000 := rfl
                    omega
                have hst := rem9_step (full := false) (i := i) (rc := rc) (by rw [if_neg (by decide)]; omega)
                have hsz' : w6.heap.size ≤ wr.heap.size := hB.out.size
                have hm10 : rc % 10 < 10 := Nat.mod_lt _ (by decide)
                obtain ⟨d, hd⟩ : ∃ d, 48 + rc % 10 = d := ⟨_, rfl⟩
                have hd256 : d < 256 := by omega
                have u1 : (48 : Int) + (rc : Int) % 10 = (d : Int) := by omega
                rw [hd] at hst
                have kc := conv_row (some ⟨wr.heap.size, 0, none⟩) 1 1 (fun _ => d) (wr.alloc (.cells #[.int .u8 (d : Int)] 5)) (rd_one wr .u8 d 5)
                obtain ⟨P, hP⟩ : ∃ P, pc (fun _ => d) 1 = P := ⟨_, rfl⟩
                have hPs : P.size = 1 := by rw [← hP, pc_size]
                have hPl : P.data.toList = [UInt8.ofNat d] := by rw [← hP]; rfl
                rw [hP] at kc
                have HG : Hid (rem9 false 0 r = rem9 false (i + 1) (rc / 10) ++ (P ++ T).data.toList) := Lib.hid (by rw [hG.out, hst, app_list, hPl, List.append_assoc])
                have H10 : Hid (rc / 10 * 10 ^ (i + 1) ≤ r) := Lib.hid (by
                  refine Nat.le_trans ?_ h10.out
                  rw [Nat.pow_succ, Nat.mul_comm (10 ^ i) 10, ← Nat.mul_assoc]
                  exact Nat.mul_le_mul_right _ (by omega))
                have HPT : Hid ((P ++ T).size = i + 1) := Lib.hid (by rw [ByteArray.size_append, hPs, hT.out]; omega)
                have hrc2 : rc / 10 < 1000000000 := by omega
                have HBA := Lib.hid (hB.out.alloc hsz' (.cells #[.int .u8 (d : Int)] 5))
                have hb1 : ¬ 9223372036854775807 < P.size + T.size := by rw [hPs, hT.out]; omega
                clear hst hd hP hPl hPs hm10
                go_wp2_with fail
                go_roundw
                case rel => exact ⟨i + 1, rc / 10, P ++ T, by omega, by go_num, congrArg (Value.int .u32) (by omega), rfl, hrc2, HPT, H10, HG, HBA⟩
                case measure => simp [intOf]; omega
              · have hTl : rem9 false 0 r = T.data.toList := by
                  have h := hG.out
                  rw [show rc = 0 by omega] at h
                  exact h
                have hTs : 1 ≤ T.size := by
                  have h2 : T.size = T.data.toList.length := rfl
                  rw [h2, ← hTl]
                  unfold rem9
                  rw [if_neg (by decide), if_neg HR0.out, Lib.decDigits_length]
                  exact Lib.nDigits_pos r
                have hdv : Lib.decDigits V = (if (0 : Nat) ≠ 0 then Lib.decDigits (0 : Nat) else []) ++ (T ++ S).data.toList := by
                  rw [if_neg (by omega), List.nil_append, HJ2.out, hTl, app_list]
                have hTS : (T ++ S).size ≤ LV := by
                  have h2 : (T ++ S).size = (T ++ S).data.toList.length := rfl
                  rw [h2, ← HV.out.2, hdv, List.length_append]
                  omega
                have hTS2 : (T ++ S).size = T.size + S.size := ByteArray.size_append
                have HTS := Lib.hid hTS
                have HTS2 := Lib.hid (And.intro hTS2 hTs)
                have HDV := Lib.hid hdv
                have HNB := Lib.hid (And.intro (Num.keep HN6.out hB.out) (HB6.out.trans (hB.out.mono HB6.out.size)))
                have hb2 : ¬ 9223372036854775807 < T.size + S.size := by omega
                clear hTl hTs hdv hTS hTS2
                obtain rfl : rc = 0 := by omega
                by_cases hi9 : i < 9
                · go_wp2_with fail
                  go_roundw
                  case rel => exact ⟨A6, 0, c6, f6, T ++ S, 0, rfl, rfl, h64, HTS, HNB, HDV⟩
                  case measure => have h1 := HTS2.out; have h2 := HTS.out; simp; omega
                · go_wp2_with fail
                  go_roundw
                  case rel => exact ⟨A6, 0, c6, f6, T ++ S, 0, rfl, rfl, h64, HTS, HNB, HDV⟩
                  case measure => have h1 := HTS2.out; have h2 := HTS.out; simp; omega
          · have hn61 : 0 < n6 := by omega
            have hX2 : X2 ≠ 0 := by
              intro h
              have h1 := sm_pos (Nat.two_pow_pos 32) HN6.out.trm (by omega)
              have h2 := HN6.out.val
              omega
            have HJ2 : Hid (Lib.decDigits V = Lib.decDigits X2 ++ (rem9 true 0 r ++ S.data.toList)) := Lib.hid (by have h := HJ.out; rw [if_pos hX2, decide_eq_true hX2] at h; exact h)
            have HX2 := Lib.hid hX2
            clear hX2
            go_loopw [7, 9, 10] (fun s7 s9 s10 wr => ∃ (i rc : Nat) (T : ByteArray), i ≤ 9 ∧ s10 = .int .i64 (i : Int) ∧ s7 = .int .u32 (rc : Int) ∧ s9 = .string T ∧ rc < 1000000000 ∧ Hid (T.size = i) ∧ Hid (rc * 10 ^ i ≤ r) ∧ Hid (rem9 true 0 r = rem9 true i rc ++ T.data.toList) ∧ Hid (Below w6.heap.size w6 wr)) (fun _ _ s10 _ => 9 - (intOf s10).toNat)
            case atStart => exact ⟨0, r, ⟨#[]⟩, Nat.zero_le _, rfl, rfl, rfl, hr, Lib.hid rfl, Lib.hid (by simp), Lib.hid (by simp), Lib.hid (Below.refl _ _)⟩
            case round =>
              obtain ⟨i, rc, T, hi, rfl, rfl, rfl, hrc, hT, h10, hG, hB⟩ := hrel
              by_cases hgo : i < 9
              · have hi9 : i < 9 := by
                  exact hgo
                have hst := rem9_step (full := true) (i := i) (rc := rc) (by rw [if_pos rfl]; exact hgo)
                have hsz' : w6.heap.size ≤ wr.heap.size := hB.out.size
                have hm10 : rc % 10 < 10 := Nat.mod_lt _ (by decide)
                obtain ⟨d, hd⟩ : ∃ d, 48 + rc % 10 = d := ⟨_, rfl⟩
                have hd256 : d < 256 := by omega
                have u1 : (48 : Int) + (rc : Int) % 10 = (d : Int) := by omega
                rw [hd] at hst
                have kc := conv_row (some ⟨wr.heap.size, 0, none⟩) 1 1 (fun _ => d) (wr.alloc (.cells #[.int .u8 (d : Int)] 5)) (rd_one wr .u8 d 5)
                obtain ⟨P, hP⟩ : ∃ P, pc (fun _ => d) 1 = P := ⟨_, rfl⟩
                have hPs : P.size = 1 := by rw [← hP, pc_size]
                have hPl : P.data.toList = [UInt8.ofNat d] := by rw [← hP]; rfl
                rw [hP] at kc
                have HG : Hid (rem9 true 0 r = rem9 true (i + 1) (rc / 10) ++ (P ++ T).data.toList) := Lib.hid (by rw [hG.out, hst, app_list, hPl, List.append_assoc])
                have H10 : Hid (rc / 10 * 10 ^ (i + 1) ≤ r) := Lib.hid (by
                  refine Nat.le_trans ?_ h10.out
                  rw [Nat.pow_succ, Nat.mul_comm (10 ^ i) 10, ← Nat.mul_assoc]
                  exact Nat.mul_le_mul_right _ (by omega))
                have HPT : Hid ((P ++ T).size = i + 1) := Lib.hid (by rw [ByteArray.size_append, hPs, hT.out]; omega)
                have hrc2 : rc / 10 < 1000000000 := by omega
                have HBA := Lib.hid (hB.out.alloc hsz' (.cells #[.int .u8 (d : Int)] 5))
                have hb1 : ¬ 9223372036854775807 < P.size + T.size := by rw [hPs, hT.out]; omega
                clear hst hd hP hPl hPs hm10
                go_wp2_with fail
                go_roundw
                case rel => exact ⟨i + 1, rc / 10, P ++ T, by omega, by go_num, congrArg (Value.int .u32) (by omega), rfl, hrc2, HPT, H10, HG, HBA⟩
                case measure => simp [intOf]; omega
              · have hTl : rem9 true 0 r = T.data.toList := by
                  have h := hG.out
                  rw [show i = 9 by omega] at h
                  exact h
                have hTs : 1 ≤ T.size := by
                  rw [hT.out]; omega
                have hdv : Lib.decDigits V = (if X2 ≠ 0 then Lib.decDigits X2 else []) ++ (T ++ S).data.toList := by
                  rw [if_pos HX2.out, HJ2.out, hTl, app_list]
                have hTS : (T ++ S).size ≤ LV := by
                  have h2 : (T ++ S).size = (T ++ S).data.toList.length := rfl
                  rw [h2, ← HV.out.2, hdv, List.length_append]
                  omega
                have hTS2 : (T ++ S).size = T.size + S.size := ByteArray.size_append
                have HTS := Lib.hid hTS
                have HTS2 := Lib.hid (And.intro hTS2 hTs)
                have HDV := Lib.hid hdv
                have HNB := Lib.hid (And.intro (Num.keep HN6.out hB.out) (HB6.out.trans (hB.out.mono HB6.out.size)))
                have hb2 : ¬ 9223372036854775807 < T.size + S.size := by omega
                clear hTl hTs hdv hTS hTS2
                obtain rfl : i = 9 := by omega
                go_wp2_with fail
                go_roundw
                case rel => exact ⟨A6, n6, c6, f6, T ++ S, X2, rfl, rfl, h64, HTS, HNB, HDV⟩
                case measure => have h1 := HTS2.out; have h2 := HTS.out; simp; omega
theorem rdigits_any (A : Option Addr) (n c : Nat) (f : Nat → Nat) (w : World) (hA : Rd w .u32 A n f) (lf : Lt (2 ^ 32) f n) (hn : n ≤ c) (hc : c * 4 ≤ 140737488351232) :
    Calls Tryz.prog 51 #[.slice A n c] w fun e w' => e = .returned (.tuple #[.string ⟨(dgT n f).toArray⟩, .int .i64 (dgE n f : Int)]) ∧ Below w.heap.size w w' :=
  rdigits_all A n c f w hA lf hn (by unfold maxLen; omega) (by omega)
end Go.Proofs.YtljbnnpmnoejeaaGreatDoor.nn
