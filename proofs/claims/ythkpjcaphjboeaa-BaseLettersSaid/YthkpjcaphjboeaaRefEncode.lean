/- The walk of the document's Encode (letters of bytes). -/
import Derived.Test.YthkpjcaphjboeaaRefBase
namespace Go.Proofs.Ythkpjcaphjboeaa.nn
open Go.RowKit

theorem info_byte4 : (Try.prog.info? 5).map (fun i => (i.zero, i.size, i.bytes)) = some (some (.int .u8 0), 1, 1) := by kernel_rfl
theorem info_out4 {e : TypeId} {z : Value} {s b : Nat} (h : (Try.prog.info? e).map (fun i => (i.zero, i.size, i.bytes)) = some (some z, s, b)) : ∃ i, Try.prog.info? e = some i ∧ i.zero = some z ∧ i.size = s ∧ i.bytes = b := by
  cases hi : Try.prog.info? e with
  | none => rw [hi] at h; cases h
  | some i =>
    rw [hi] at h
    injection h with h
    exact ⟨i, rfl, (Prod.mk.inj h).1, (Prod.mk.inj (Prod.mk.inj h).2).1, (Prod.mk.inj (Prod.mk.inj h).2).2⟩
theorem rep_succ (p : Nat) (x : UInt8) : List.replicate (p + 1) x = List.replicate p x ++ [x] := List.replicate_succ'
theorem ltr_at {L : ByteArray} {w n j : Nat} {f : Nat → Nat} (h : gv f n (j * w) w < L.size) : ltr L w f n j = L[gv f n (j * w) w] := by
  unfold ltr
  rw [bt_at h]
  exact UInt8.ofNat_toNat
def EncAns (T : List UInt8) (er : Int) (w : World) (e : Ending) (w' : World) : Prop := e = .returned (.tuple #[.string ⟨T.toArray⟩, .int .i64 er]) ∧ Below w.heap.size w w'

set_option maxRecDepth 100000 in
set_option maxHeartbeats 2000000 in
theorem rencode_core (kk : Int) (L : ByteArray) (W M l : Nat) (hWM : W = 4 ∧ M = 1 ∨ W = 6 ∧ M = 4 ∨ W = 6 ∧ M = 1 ∨ W = 5 ∧ M = 8) (hL : 2 ^ W ≤ L.size) (_ : L.size ≤ 1000)
    (HA : Hid (∀ w, Calls Try.prog 21 #[.int .i64 kk] w fun e w' => e = .returned (.tuple #[.string L, .int .i64 (W : Int), .int .i64 (M : Int)]) ∧ w = w'))
    (A : Option Addr) (n c : Nat) (f : Nat → Nat) (w : World) (hA : Rd w .u8 A n f) (hf : ∀ j, j < n → f j < 256) (hn : n ≤ 16777216) (hl : l = (8 * n + W - 1) / W) :
    Calls Try.prog 7 #[.int .i64 kk, .slice A n c] w (EncAns (encB L W M f n l) 0 w) := by
  obtain ⟨i0, hi0, hz0, hz1, hz2⟩ := info_out4 info_byte4
  have HR := Lib.hid hA
  have HF := Lib.hid hf
  clear hA hf
  have hW6 : W ≤ 6 ∧ 4 ≤ W ∧ M ≤ 8 ∧ 1 ≤ M := by omega
  rcases hWM with ⟨hW, hM⟩ | ⟨hW, hM⟩ | ⟨hW, hM⟩ | ⟨hW, hM⟩
  all_goals
    have hlb : l ≤ 100000000 := by rw [hl, hW]; omega
    have HL : Hid (∀ j, j < l ↔ j * W < 8 * n) := Lib.hid fun j => by rw [hl, hW]; omega
    have HLS := Lib.hid hL
    have HA2 := HA.out
    rw [hW, hM] at HA2
    have HA3 := Lib.hid HA2
    have HW := Lib.hid hW
    have HM := Lib.hid hM
    have HW6 := Lib.hid hW6
    clear hl hL HA HA2 hW hM hW6
    go_enter Try.func7, Try.ntmps7
    go_wp2_with fail
    refine (HA3.out _).mono ?_
    rintro e w1 ⟨rfl, rfl⟩
    go_wp2_with fail
    go_loopw [9, 10] (fun s9 s10 wr => ∃ (j i m c' : Nat) (A' : Option Addr), j ≤ l ∧ m ≤ l ∧ s9 = .slice A' m c' ∧ s10 = .int .i64 (i : Int) ∧ i ≤ 8 * n + 8 ∧ Hid (i = j * W ∧ m = j ∧ wr.ownsRow w.heap.size 5 1 (.slice A' m c') m (Lib.byteCells (ltrs L W f n j)) ∧ Below w.heap.size w wr)) (fun _ s10 _ => 8 * n + 8 - (intOf s10).toNat)
    case atStart => exact ⟨0, 0, 0, 0, none, Nat.zero_le _, Nat.zero_le _, rfl, rfl, Nat.zero_le _, Lib.hid ⟨(Nat.zero_mul _).symm, rfl, World.ownsRow_nil _ _ _ _, Below.refl _ _⟩⟩
    case round =>
      obtain ⟨j, i, m, c', A', hj, hml, rfl, rfl, hi8, hI⟩ := hrel
      have hsz : w.heap.size ≤ wr.heap.size := hI.out.2.2.2.size
      by_cases hlt : i < 8 * n
      · have hjl : j < l := (HL.out j).2 (by rw [← hI.out.1]; exact hlt)
        have q25 : decide ((i : Int) < 8 * (n : Int)) = true := decide_eq_true (by omega)
        go_wp2_with fail
        clear q25
        go_loop [11, 12] (fun s11 s12 => ∃ (x q : Nat), x < 64 ∧ q ≤ 6 ∧ s11 = .int .i64 (x : Int) ∧ s12 = .int .i64 (q : Int) ∧ Hid (x = gv f n i q ∧ q ≤ W)) (fun _ s12 => 6 - (intOf s12).toNat)
        case atStart => exact ⟨0, 0, by omega, by omega, rfl, rfl, Lib.hid ⟨rfl, Nat.zero_le _⟩⟩
        case round =>
          obtain ⟨x, q, hx, hq, rfl, rfl, hQ⟩ := hrel
          by_cases hqw : q < W
          · have hqw2 := hqw
            rw [HW.out] at hqw2
            have hC := fun wz (h : wz = wr) => bit_any A n c (i + q) f wz (h ▸ HR.out.below hI.out.2.2.2) HF.out hn (by omega)
            have e1 : ((i + q : Nat) : Int) = (i : Int) + (q : Int) := by omega
            rw [e1] at hC
            have hb := bt8_lt (f := f) (n := n) (i := i + q)
            obtain ⟨b, hbb⟩ : ∃ b, bt8 f n (i + q) = b := ⟨_, rfl⟩
            rw [hbb] at hC hb
            have HC := Lib.hid hC
            have hx2 : 2 * x + b < 64 := by
              have h1 := gv_lt (f := f) (n := n) (i := i) (k := q + 1)
              rw [gv, ← hQ.out.1, hbb] at h1
              have h2 : 2 ^ (q + 1) ≤ 2 ^ 6 := Nat.pow_le_pow_right (by decide) (by have := HW6.out; omega)
              omega
            have hQ2 : Hid (2 * x + b = gv f n i (q + 1) ∧ q + 1 ≤ W) := Lib.hid ⟨by rw [gv, ← hQ.out.1, hbb], hqw⟩
            clear hC hbb e1 hqw
            go_wp2_with fail
            refine (HC.out _ rfl).mono ?_
            rintro r w2 ⟨rfl, rfl⟩
            go_wp2_with fail
            go_round
            case rel => exact ⟨2 * x + b, q + 1, hx2, by omega, by go_num, by go_num, hQ2⟩
            case measure => simp [intOf]; omega
          · have hqe : q = W := by have := hQ.out.2; omega
            have hqw3 := hqw
            rw [HW.out] at hqw3
            have hLs2 : 2 ^ W ≤ L.size := HLS.out
            have hxq : x = gv f n (j * W) W := by rw [← hI.out.1, ← hqe]; exact hQ.out.1
            have hxL : x < L.size := by
              have h1 := gv_lt (f := f) (n := n) (i := j * W) (k := W)
              omega
            have hltr : ltr L W f n j = L[x] := by rw [ltr_at (by rw [← hxq]; exact hxL)]; simp only [← hxq]
            have hst : ltrs L W f n (j + 1) = ltrs L W f n j ++ [L[x]] := by rw [ltrs_succ, hltr]
            have hij : i + W = (j + 1) * W := by rw [Nat.succ_mul, ← hI.out.1]
            have HST := Lib.hid (And.intro hst hij)
            have hr := rd_new wr [(L[x].toNat : Int)] [L[x]] 5 rfl
            simp only [List.map_cons, List.map_nil, List.length_cons, List.length_nil, Nat.zero_add] at hr
            have HRR := Lib.hid hr
            have HO := Lib.hid (hI.out.2.2.1.alloc (.cells #[.int .u8 (L[x].toNat : Int)] 5))
            have hsz' : w.heap.size ≤ (wr.alloc (.cells #[.int .u8 (L[x].toNat : Int)] 5)).heap.size := by simp; omega
            have HB := Lib.hid (hI.out.2.2.2.alloc hsz (.cells #[.int .u8 (L[x].toNat : Int)] 5))
            have hmx : m + 1 ≤ 140737488355328 := by omega
            have HMJ := Lib.hid (show m = (ltrs L W f n j).length by rw [ltrs_len]; exact hI.out.2.1)
            have hml1 : m + 1 ≤ l := by rw [hI.out.2.1]; exact hjl
            clear hLs2 hxq hltr hst hij hr hqw hqe
            go_wp2_with (at_builtin; refine wpList_appB rfl (.tmp 42) (.tmp 46) _ rfl w.heap.size 5 i0 _ Try.underlying22 hi0 hz0 hz1 hz2 rfl _ m (ltrs L W f n j) HMJ.out rfl HO.out _ 1 1 [L[x]] rfl rfl HRR.out hmx hsz' ?_; intro v3 w3 hown3 hb3)
            obtain ⟨A3, c3, rfl, _, _, _⟩ := rd_list (L := ltrs L W f n (j + 1)) (n := m + 1) (by rw [ltrs_len, hI.out.2.1]) (by rw [HST.out.1]; exact hown3)
            have hI3 : Hid (i + W = (j + 1) * W ∧ m + 1 = j + 1 ∧ w3.ownsRow w.heap.size 5 1 (.slice A3 (m + 1) c3) (m + 1) (Lib.byteCells (ltrs L W f n (j + 1))) ∧ Below w.heap.size w w3) :=
              Lib.hid ⟨HST.out.2, by rw [hI.out.2.1], by rw [HST.out.1]; exact hown3, HB.out.trans hb3⟩
            clear hown3 hb3
            go_wp2_with fail
            go_roundw
            case rel => exact ⟨j + 1, i + W, m + 1, c3, A3, hjl, hml1, rfl, congrArg (Value.int .i64) (by have := HW.out; omega), by have := HW6.out; omega, hI3⟩
            case measure => simp [intOf]; omega
      · have hjl : j = l := by have := HL.out j; rw [← hI.out.1] at this; omega
        subst hjl
        have hml2 : m = j := hI.out.2.1
        subst hml2
        have HB := Lib.hid hI.out.2.2.2
        have HO := Lib.hid hI.out.2.2.1
        have UP : Hid (∀ p, m + p ≤ up M m → ((m + p) % M = 0 → p = up M m - m) ∧ ((m + p) % M ≠ 0 → m + (p + 1) ≤ up M m)) := Lib.hid fun p hp => by
          unfold up at hp ⊢
          rw [HM.out] at hp ⊢
          omega
        have UPX : Hid (m ≤ up M m ∧ up M m ≤ m + 8) := Lib.hid (by unfold up; rw [HM.out]; omega)
        have hnlt : 8 * n ≤ i := by omega
        clear hI hj hml HL hlt
        go_wp2_with fail
        go_loopw [9] (fun s9 wr2 => ∃ (p m' c' : Nat) (A' : Option Addr), p ≤ 8 ∧ m' ≤ 100000100 ∧ s9 = .slice A' m' c' ∧ Hid (m' = m + p ∧ m + p ≤ up M m ∧ wr2.ownsRow w.heap.size 5 1 (.slice A' m' c') m' (Lib.byteCells (ltrs L W f n m ++ List.replicate p 61)) ∧ Below w.heap.size w wr2)) (fun s9 _ => match s9 with | .slice _ m' _ => 100000100 - m' | _ => 0)
        case atStart => exact ⟨0, m, c', A', by omega, by omega, rfl, Lib.hid ⟨rfl, UPX.out.1, by rw [List.replicate_zero, List.append_nil]; exact HO.out, HB.out⟩⟩
        case round =>
          obtain ⟨p, m', c2, A2, hp8, hm'8, rfl, hJ⟩ := hrel
          have hsz2 : w.heap.size ≤ wr.heap.size := hJ.out.2.2.2.size
          obtain ⟨r, hr⟩ : ∃ r, m' % M = r := ⟨_, rfl⟩
          have hr3 : (m' : Int) % (M : Int) = (r : Int) := by rw [← hr]; exact (Int.natCast_emod m' M).symm
          rw [HM.out] at hr3
          have hup := UP.out p hJ.out.2.1
          rw [← hJ.out.1, hr] at hup
          by_cases hr0 : r = 0
          · have hpe := hup.1 hr0
            subst hr0
            have HE : Hid (encB L W M f n m = ltrs L W f n m ++ List.replicate p 61) := Lib.hid (by unfold encB; rw [← hpe])
            have kc := conv_list (L := ltrs L W f n m ++ List.replicate p 61) (n := m') (by rw [List.length_append, ltrs_len, List.length_replicate]; exact hJ.out.1) hJ.out.2.2.1
            clear hup hpe hr
            go_wp2_with fail
            exact bodyPost_ret (v := .tuple #[.string ⟨(ltrs L W f n m ++ List.replicate p 61).toArray⟩, .int .i64 0]) (by simp [results, Try.results7, go_sem]) rfl ⟨by rw [HE.out], hJ.out.2.2.2⟩
          · by_cases hM1 : M = 1
            · exfalso
              rw [hM1] at hr
              omega
            · try exact absurd HM.out hM1
              all_goals
                have hp1 := hup.2 hr0
                have q1 : ((r : Int) != 0) = true := by simp; omega
                have hrw := rd_new wr [61] [61] 5 rfl
                simp only [List.map_cons, List.map_nil, List.length_cons, List.length_nil, Nat.zero_add] at hrw
                have HRR := Lib.hid hrw
                have HO2 := Lib.hid (hJ.out.2.2.1.alloc (.cells #[.int .u8 61] 5))
                have hsz' : w.heap.size ≤ (wr.alloc (.cells #[.int .u8 61] 5)).heap.size := by simp; omega
                have HB2 := Lib.hid (hJ.out.2.2.2.alloc hsz2 (.cells #[.int .u8 61] 5))
                have hlen := Lib.hid (show m' = (ltrs L W f n m ++ List.replicate p 61).length by rw [List.length_append, ltrs_len, List.length_replicate]; exact hJ.out.1)
                have hmx : m' + 1 ≤ 140737488355328 := by omega
                have HP1 := Lib.hid hp1
                have hp9 : p + 1 ≤ 8 ∧ m' + 1 ≤ 100000100 := by have h1 := UPX.out.2; have h2 := hJ.out.1; omega
                clear hup hp1 hr hrw
                go_wp2_with (at_builtin; refine wpList_appB rfl (.tmp 53) (.tmp 54) _ rfl w.heap.size 5 i0 _ Try.underlying22 hi0 hz0 hz1 hz2 rfl _ m' (ltrs L W f n m ++ List.replicate p 61) hlen.out rfl HO2.out _ 1 1 [61] rfl rfl HRR.out hmx hsz' ?_; intro v3 w3 hown3 hb3)
                have e3 : ltrs L W f n m ++ List.replicate p 61 ++ [61] = ltrs L W f n m ++ List.replicate (p + 1) 61 := by rw [rep_succ, List.append_assoc]
                rw [e3] at hown3
                obtain ⟨A3, c3, rfl, _, _, _⟩ := rd_list (L := ltrs L W f n m ++ List.replicate (p + 1) 61) (n := m' + 1) (by rw [List.length_append, ltrs_len, List.length_replicate, hJ.out.1]; rfl) hown3
                have hJ3 : Hid (m' + 1 = m + (p + 1) ∧ m + (p + 1) ≤ up M m ∧ w3.ownsRow w.heap.size 5 1 (.slice A3 (m' + 1) c3) (m' + 1) (Lib.byteCells (ltrs L W f n m ++ List.replicate (p + 1) 61)) ∧ Below w.heap.size w w3) :=
                  Lib.hid ⟨by rw [hJ.out.1]; rfl, HP1.out, hown3, HB2.out.trans hb3⟩
                clear hown3 hb3 e3
                go_wp2_with fail
                go_roundw
                case rel => exact ⟨p + 1, m' + 1, c3, A3, hp9.1, hp9.2, rfl, hJ3⟩
                case measure => simp; omega
end Go.Proofs.Ythkpjcaphjboeaa.nn
