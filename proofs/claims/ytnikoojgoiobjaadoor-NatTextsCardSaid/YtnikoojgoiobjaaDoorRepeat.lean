/- The walk of strings.Repeat of "0", up to 18 times. -/
import Derived.Test.YtnikoojgoiobjaaDoorFormatUint
namespace Go.Proofs.YtnikoojgoiobjaaDoor.nn
open Go.RowKit

/-- so many letters 0 -/
def zs (k : Nat) : ByteArray := ⟨(List.replicate k 48).toArray⟩

def z64 : ByteArray := ⟨#[48, 48, 48, 48, 48, 48, 48, 48, 48, 48, 48, 48, 48, 48, 48, 48, 48, 48, 48, 48, 48, 48, 48, 48, 48, 48, 48, 48, 48, 48, 48, 48, 48, 48, 48, 48, 48, 48, 48, 48, 48, 48, 48, 48, 48, 48, 48, 48, 48, 48, 48, 48, 48, 48, 48, 48, 48, 48, 48, 48, 48, 48, 48, 48]⟩
theorem z64_take {k : Nat} (h : k ≤ 18) : z64.extract 0 k = zs k := by
  have : ∀ k, k < 19 → z64.extract 0 k = zs k := by decide
  exact this k (by omega)
theorem ret_str {a b : ByteArray} (h : a = b) : Ending.returned (.string a) = .returned (.string b) := by rw [h]

set_option maxRecDepth 100000 in
set_option maxHeartbeats 1000000 in
theorem hasPrefix_any (Z s : ByteArray) (w : World) (h : s.size ≤ Z.size) (he : Z.extract 0 s.size = s) (hZ : Z.size ≤ 1000000) :
    Calls Tryd.prog 53 #[.string Z, .string s] w fun e w' => e = .returned (.bool true) ∧ w = w' := by
  have key : Hid (Calls Tryd.prog 66 #[.string Z, .string s] w fun e w' => e = .returned (.bool true) ∧ w = w') := by
    refine Lib.hid ?_
    go_enter Tryd.func66, Tryd.ntmps66
    go_wp2
    go_ret
    exact ⟨rfl, rfl⟩
  clear he
  go_enter Tryd.func53, Tryd.ntmps53
  go_wp2_with fail
  refine key.out.mono ?_
  rintro e w' ⟨rfl, rfl⟩
  go_wp2_with fail
  go_ret
  exact ⟨rfl, rfl⟩

set_option maxRecDepth 100000 in
set_option maxHeartbeats 1000000 in
theorem hasPrefix_no (Z s Y : ByteArray) (w : World) (h : s.size ≤ Z.size) (he : Z.extract 0 s.size = Y) (hne' : (Y.data.toList == s.data.toList) = false) (hZ : Z.size ≤ 1000000) :
    Calls Tryd.prog 53 #[.string Z, .string s] w fun e w' => e = .returned (.bool false) ∧ w = w' := by
  have hne : (Y.toList == s.toList) = false := by rw [ByteArray.toList_eq, ByteArray.toList_eq]; exact hne'
  clear hne'
  have key : Hid (Calls Tryd.prog 66 #[.string Z, .string s] w fun e w' => e = .returned (.bool false) ∧ w = w') := by
    refine Lib.hid ?_
    go_enter Tryd.func66, Tryd.ntmps66
    go_wp2
    go_ret
    exact ⟨rfl, rfl⟩
  clear he
  go_enter Tryd.func53, Tryd.ntmps53
  go_wp2_with fail
  refine key.out.mono ?_
  rintro e w' ⟨rfl, rfl⟩
  go_wp2_with fail
  go_ret
  exact ⟨rfl, rfl⟩

set_option maxRecDepth 100000 in
set_option maxHeartbeats 2000000 in
theorem repeat_zero (k : Nat) (w : World) (hk : k ≤ 18) :
    Calls Tryd.prog 33 #[.string ⟨#[48]⟩, .int .i64 (k : Int)] w fun e w' => e = .returned (.string (zs k)) ∧ w = w' := by
  by_cases h0 : k = 0
  · subst h0
    go_enter Tryd.func33, Tryd.ntmps33
    go_wp2
    go_ret
    exact ⟨rfl, rfl⟩
  · by_cases h1 : k = 1
    · subst h1
      go_enter Tryd.func33, Tryd.ntmps33
      go_wp2
      go_ret
      exact ⟨rfl, rfl⟩
    · have h2 : 2 ≤ k := by omega
      have HM := fun W => Tryd.bits_Mul 1 k (by omega) (by omega) W
      have e1 : 1 * k / 18446744073709551616 = 0 := by omega
      have e2 : 1 * k % 18446744073709551616 = k := by omega
      rw [e1, e2] at HM
      have HMM := Lib.hid HM
      clear e1 e2 HM h0 h1
      go_enter Tryd.func33, Tryd.ntmps33
      go_wp2_with fail
      refine (HMM.out _).mono ?_
      rintro e w' ⟨rfl, rfl⟩
      go_wp2_with fail
      refine (hasPrefix_no _ _ _ _ (by decide) rfl (by decide) (by decide)).mono ?_
      rintro e w' ⟨rfl, rfl⟩
      go_wp2_with fail
      refine (hasPrefix_no _ _ _ _ (by decide) rfl (by decide) (by decide)).mono ?_
      rintro e w' ⟨rfl, rfl⟩
      go_wp2_with fail
      refine (hasPrefix_any _ _ _ (by decide) (by decide) (by decide)).mono ?_
      rintro e w' ⟨rfl, rfl⟩
      go_wp2_with fail
      go_ret
      exact ⟨ret_str (z64_take hk), rfl⟩
end Go.Proofs.YtnikoojgoiobjaaDoor.nn
