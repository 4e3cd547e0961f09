/- The walks of Encode, and of the document's Encode. -/
import Derived.Test.YtakbahhoiggmhaaPoint
import Derived.Laws.BytesArg
namespace Go.Proofs.Ytakbahhoiggmhaa.nn
open Go.RowKit

def isPt (c : Int) : Prop := 0 ≤ c ∧ c ≤ 1114111 ∧ ¬ (55296 ≤ c ∧ c ≤ 57343)
instance (c : Int) : Decidable (isPt c) := by unfold isPt; infer_instance
/-- the bytes of a code point; none of what is none -/
def encF (c : Int) : ByteArray := if isPt c then Utf8.encode c else ⟨#[]⟩
theorem encF_no {c : Int} (h : c < 0 ∨ 1114111 < c ∨ 55296 ≤ c ∧ c ≤ 57343) : encF c = ⟨#[]⟩ := by
  unfold encF
  rw [if_neg (by unfold isPt; omega)]
theorem encF_yes {c : Int} (h : isPt c) : encF c = Utf8.encode c := by unfold encF; rw [if_pos h]

theorem ret_str {a b : ByteArray} (h : a = b) : Ending.returned (.string a) = .returned (.string b) := by rw [h]

set_option maxRecDepth 100000 in
set_option maxHeartbeats 1000000 in
theorem enc_any (c : Int) (w : World) (h1 : -9223372036854775808 ≤ c) (h2 : c ≤ 9223372036854775807) :
    Calls Try.prog 17 #[.int .i64 c] w fun r w' => r = .returned (.string (encF c)) ∧ w = w' := by
  by_cases hv : isPt c
  · rw [encF_yes hv]
    obtain ⟨a, b, d⟩ := hv
    by_cases hl : c < 55296
    · clear d
      go_enter Try.func17, Try.ntmps17
      go_wp2
      go_ret
      exact ⟨rfl, rfl⟩
    · have hg : 57343 < c := by omega
      clear d
      go_enter Try.func17, Try.ntmps17
      go_wp2
      go_ret
      exact ⟨rfl, rfl⟩
  · have hn : c < 0 ∨ 1114111 < c ∨ 55296 ≤ c ∧ c ≤ 57343 := by unfold isPt at hv; omega
    rw [encF_no hn]
    clear hv
    rcases hn with h | h | ⟨h, h'⟩
    all_goals
      go_enter Try.func17, Try.ntmps17
      go_wp2
      go_ret
      exact ⟨rfl, rfl⟩

theorem conv_new (w : World) (xs : List Int) (n : Nat) (h : xs.length = n) : (convert 35 9 (.slice (some ⟨w.heap.size, 0, none⟩) n n)).run Try.prog (w.alloc (.cells (xs.map (Value.int .u8)).toArray 5)) = .ok (.string (strOfNums xs)) (w.alloc (.cells (xs.map (Value.int .u8)).toArray 5)) :=
  run_convert_bytes_arg _ 35 5 Try.underlying35 Try.underlying5 _ 0 n n xs h (fun i hi => by
    rw [Nat.zero_add, World.cell?_alloc_at _ _ _ _ rfl]
    have : i < xs.length := by omega
    simp [this]) 9 Try.underlying9

theorem and63 {c : Int} (h0 : 0 ≤ c) (h : c ≤ 1114111) : bits .and .i64 c 63 = c % 64 := by
  obtain ⟨C, rfl⟩ := Int.eq_ofNat_of_zero_le h0
  exact i64_63 C (by omega)
theorem or128 {c : Int} (h0 : 0 ≤ c) (h : c < 64) : bits .or .i64 128 c = 128 + c := by
  obtain ⟨C, rfl⟩ := Int.eq_ofNat_of_zero_le h0
  exact i64_high 128 C 7 (by decide) (by omega) (by decide) (by decide)
theorem or192 {c : Int} (h0 : 0 ≤ c) (h : c < 32) : bits .or .i64 192 c = 192 + c := by
  obtain ⟨C, rfl⟩ := Int.eq_ofNat_of_zero_le h0
  exact i64_high 192 C 6 (by decide) (by omega) (by decide) (by decide)
theorem or224 {c : Int} (h0 : 0 ≤ c) (h : c < 16) : bits .or .i64 224 c = 224 + c := by
  obtain ⟨C, rfl⟩ := Int.eq_ofNat_of_zero_le h0
  exact i64_high 224 C 5 (by decide) (by omega) (by decide) (by decide)
theorem or240 {c : Int} (h0 : 0 ≤ c) (h : c < 8) : bits .or .i64 240 c = 240 + c := by
  obtain ⟨C, rfl⟩ := Int.eq_ofNat_of_zero_le h0
  exact i64_high 240 C 4 (by decide) (by omega) (by decide) (by decide)

theorem ofNat_mod {a b : Nat} (h : a % 256 = b % 256) : UInt8.ofNat a = UInt8.ofNat b := by
  apply UInt8.toNat_inj.1
  simp only [UInt8.toNat_ofNat']
  exact h
theorem str_of {xs : List Int} {ys : List UInt8} (h : xs.map (fun n => UInt8.ofNat n.toNat) = ys) : strOfNums xs = ⟨ys.toArray⟩ := by unfold strOfNums; rw [h]
theorem valid_nat {C : Nat} (h : isPt (C : Int)) : Utf8.valid (C : Int) = true := by
  unfold isPt at h
  simp [Utf8.valid]
  omega
theorem str1 {c : Int} (h0 : 0 ≤ c) (h : c < 128) : strOfNums [c] = Utf8.encode c := by
  obtain ⟨C, rfl⟩ := Int.eq_ofNat_of_zero_le h0
  have hv : Utf8.valid (C : Int) = true := valid_nat (by unfold isPt; omega)
  unfold Utf8.encode
  simp only [hv, if_true, Int.toNat_natCast]
  rw [if_pos (by omega)]
  exact str_of rfl
theorem str2 {c : Int} (h0 : 128 ≤ c) (h : c < 2048) : strOfNums [192 + c / 64, 128 + c % 64] = Utf8.encode c := by
  obtain ⟨C, rfl⟩ := Int.eq_ofNat_of_zero_le (show 0 ≤ c by omega)
  have hv : Utf8.valid (C : Int) = true := valid_nat (by unfold isPt; omega)
  unfold Utf8.encode
  simp only [hv, if_true, Int.toNat_natCast]
  rw [if_neg (by omega), if_pos (by omega)]
  exact str_of rfl
theorem str3 {c : Int} (h0 : 2048 ≤ c) (h : c < 65536) (hs : ¬ (55296 ≤ c ∧ c ≤ 57343)) : strOfNums [224 + c / 4096, 128 + c / 64 % 64, 128 + c % 64] = Utf8.encode c := by
  obtain ⟨C, rfl⟩ := Int.eq_ofNat_of_zero_le (show 0 ≤ c by omega)
  have hv : Utf8.valid (C : Int) = true := valid_nat (by unfold isPt; omega)
  unfold Utf8.encode
  simp only [hv, if_true, Int.toNat_natCast]
  rw [if_neg (by omega), if_neg (by omega), if_pos (by omega)]
  exact str_of rfl
theorem str4 {c : Int} (h0 : 65536 ≤ c) (h : c ≤ 1114111) : strOfNums [240 + c / 262144, 128 + c / 4096 % 64, 128 + c / 64 % 64, 128 + c % 64] = Utf8.encode c := by
  obtain ⟨C, rfl⟩ := Int.eq_ofNat_of_zero_le (show 0 ≤ c by omega)
  have hv : Utf8.valid (C : Int) = true := valid_nat (by unfold isPt; omega)
  unfold Utf8.encode
  simp only [hv, if_true, Int.toNat_natCast]
  rw [if_neg (by omega), if_neg (by omega), if_neg (by omega)]
  exact str_of rfl

set_option maxRecDepth 100000 in
set_option maxHeartbeats 1000000 in
theorem renc_any (c : Int) (w : World) (h1 : -9223372036854775808 ≤ c) (h2 : c ≤ 9223372036854775807) :
    Calls Try.prog 18 #[.int .i64 c] w fun r w' => r = .returned (.string (encF c)) ∧ Below w.heap.size w w' := by
  by_cases hv : isPt c
  · rw [encF_yes hv]
    obtain ⟨a, b, d⟩ := hv
    have H := Lib.hid (fun o => (Below.refl w.heap.size w).alloc (Nat.le_refl _) o)
    by_cases l1 : c < 128
    · have kc := conv_new w [c] 1 rfl
      simp only [List.map_cons, List.map_nil] at kc
      clear d
      go_enter Try.func18, Try.ntmps18
      go_wp2
      go_ret
      exact ⟨ret_str (str1 a l1), H.out _⟩
    · by_cases l2 : c < 2048
      · have kc := fun x0 x1 => conv_new w [x0, x1] 2 rfl
        simp only [List.map_cons, List.map_nil] at kc
        have q1 := and63 a b
        have q2 := or128 (c := c % 64) (by omega) (by omega)
        have q3 := or192 (c := c / 64) (by omega) (by omega)
        clear d
        go_enter Try.func18, Try.ntmps18
        go_wp2
        go_ret
        refine ⟨ret_str ?_, H.out _⟩
        exact str2 (by omega) l2
      · by_cases l3 : c < 65536
        · have kc := fun x0 x1 x2 => conv_new w [x0, x1, x2] 3 rfl
          simp only [List.map_cons, List.map_nil] at kc
          have q1 := and63 a b
          have q2 := or128 (c := c % 64) (by omega) (by omega)
          have q3 := and63 (c := c / 64) (by omega) (by omega)
          have q4 := or128 (c := c / 64 % 64) (by omega) (by omega)
          have q5 := or224 (c := c / 4096) (by omega) (by omega)
          have S3 := Lib.hid (str3 (by omega) l3 d)
          by_cases hl : c < 55296
          · clear d
            go_enter Try.func18, Try.ntmps18
            go_wp2
            go_ret
            exact ⟨ret_str S3.out, H.out _⟩
          · have hg : 57343 < c := by omega
            clear d
            go_enter Try.func18, Try.ntmps18
            go_wp2
            go_ret
            exact ⟨ret_str S3.out, H.out _⟩
        · have kc := fun x0 x1 x2 x3 => conv_new w [x0, x1, x2, x3] 4 rfl
          simp only [List.map_cons, List.map_nil] at kc
          have q1 := and63 a b
          have q2 := or128 (c := c % 64) (by omega) (by omega)
          have q3 := and63 (c := c / 64) (by omega) (by omega)
          have q4 := or128 (c := c / 64 % 64) (by omega) (by omega)
          have q5 := and63 (c := c / 4096) (by omega) (by omega)
          have q6 := or128 (c := c / 4096 % 64) (by omega) (by omega)
          have q7 := or240 (c := c / 262144) (by omega) (by omega)
          clear d
          go_enter Try.func18, Try.ntmps18
          go_wp2
          go_ret
          exact ⟨ret_str (str4 (by omega) b), H.out _⟩
  · have hn : c < 0 ∨ 1114111 < c ∨ 55296 ≤ c ∧ c ≤ 57343 := by unfold isPt at hv; omega
    rw [encF_no hn]
    clear hv
    rcases hn with h | h | ⟨h, h'⟩
    all_goals
      go_enter Try.func18, Try.ntmps18
      go_wp2
      go_ret
      exact ⟨rfl, Below.refl _ _⟩
end Go.Proofs.Ytakbahhoiggmhaa.nn
